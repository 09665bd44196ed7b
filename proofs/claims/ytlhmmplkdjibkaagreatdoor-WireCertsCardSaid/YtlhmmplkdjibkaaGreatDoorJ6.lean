/- Fields as values; a row of them in memory; what a predicate of fields is to do; told, lacking; IndexFunc, ContainsFunc. -/
import Derived.Test.YtlhmmplkdjibkaaGreatDoorJ5
import Derived.Laws.EntriesVeiled
import Derived.Deep.Cut
import Derived.Maps.AppendAt
import Derived.Laws.CopyRow
import Derived.OwnWalk
import Derived.Lib.SliceRun
import Derived.Test.YtlhmmplkdjibkaaGreatDoorJ1
import Derived.BigQuiet
import Derived.Deep.RegionHeld3
namespace Go.Proofs.YtlhmmplkdjibkaaGreatDoor
open Go.RowKit

/-- a function that is entered by its number -/
def Ent (F : FuncId) : Prop := ∀ (args : Array Value) (w : World), (callFunc F args).run Tryz.prog w = .ok (.enter F args) w
/-- a field: its key, whether it is never left out, and its closures, each with what it captures -/
structure FV where
  key : UInt8
  needed : Bool
  tF : FuncId
  tC : Array Value
  lF : FuncId
  lC : Array Value
  rF : FuncId
  rC : Array Value
abbrev FV.t (f : FV) : Value := .func (.func f.tF) #[] f.tC
abbrev FV.l (f : FV) : Value := .func (.func f.lF) #[] f.lC
abbrev FV.r (f : FV) : Value := .func (.func f.rF) #[] f.rC
def FV.cells (f : FV) : List Value := [.string ⟨#[f.key]⟩, .bool f.needed, f.t, f.l, f.r]
abbrev FV.val (f : FV) : Value := .agg #[.string ⟨#[f.key]⟩, .bool f.needed, .func (.func f.tF) #[] f.tC, .func (.func f.lF) #[] f.lC, .func (.func f.rF) #[] f.rC]
/-- at block b, from o on, lie these fields -/
def RowB (b o : Nat) (fs : List FV) (w : World) : Prop := ∀ (i : Nat) (f : FV), fs[i]? = some f → ∀ j : Nat, j < 5 → w.cell? ⟨b, o + (i * 5 + j), none⟩ = f.cells[j]?
theorem RowB.next {b o : Nat} {fs : List FV} {w w' : World} (h : RowB b o fs w) (he : w'.heap[b]? = w.heap[b]?) : RowB b o fs w' := fun i f hf j hj => (World.cell?_of_block (a := ⟨b, o + (i * 5 + j), none⟩) he).trans (h i f hf j hj)
theorem RowB.tail {b o : Nat} {fs : List FV} {w : World} (h : RowB b o fs w) (k : Nat) : RowB b (o + k * 5) (fs.drop k) w := fun i f hf j hj => by
  rw [List.getElem?_drop] at hf
  have := h (k + i) f hf j hj
  rw [show o + k * 5 + (i * 5 + j) = o + ((k + i) * 5 + j) by omega]
  exact this

/-- the field has what it has -/
structure There (f : FV) (b : Bool) (Ok : World → Prop) : Prop where
  ent : Ent f.tF
  c : ∀ w, Ok w → Calls Tryz.prog f.tF f.tC w fun e w' => e = .returned (.bool b) ∧ Below w.heap.size w w'
  nx : ∀ w w', Ok w → Below w.heap.size w w' → Ok w'
theorem There.at {f : FV} {b : Bool} {Ok : World → Prop} (h : There f b Ok) (w : World) (hw : Ok w) (o : Obj) : Calls Tryz.prog f.tF f.tC (w.alloc o) fun e w' => e = .returned (.bool b) ∧ Below w.heap.size w w' :=
  (h.c _ (h.nx _ _ hw (by0 w o))).mono fun _ _ k => ⟨k.1, (by0 w o).trans (k.2.mono (by simp))⟩

set_option maxRecDepth 100000 in
theorem told_any (f : FV) (b : Bool) (Ok : World → Prop) (h : There f b Ok) (w : World) (hw : Ok w) :
    Calls Tryz.prog 88 #[f.val] w fun e w' => e = .returned (.bool (f.needed || b)) ∧ Below w.heap.size w w' := by
  obtain ⟨key, nd, tF, tC, lF, lC, rF, rC⟩ := f
  have HC := Lib.hid (fun o => h.at w hw o)
  have hent := h.ent
  simp only [Ent] at hent HC
  clear h
  cases nd with
  | true =>
    go_enter Tryz.func88, Tryz.ntmps88
    go_wp2
    go_ret
    exact ⟨rfl, by0 _ _⟩
  | false =>
    go_enter Tryz.func88, Tryz.ntmps88
    go_wp2
    refine (HC.out _).mono ?_
    rintro e w1 ⟨rfl, hb⟩
    go_wp2
    go_ret
    exact ⟨rfl, hb⟩
set_option maxRecDepth 100000 in
theorem lacking_any (f : FV) (b : Bool) (Ok : World → Prop) (h : There f b Ok) (w : World) (hw : Ok w) :
    Calls Tryz.prog 119 #[f.val] w fun e w' => e = .returned (.bool (f.needed && !b)) ∧ Below w.heap.size w w' := by
  obtain ⟨key, nd, tF, tC, lF, lC, rF, rC⟩ := f
  have HC := Lib.hid (fun o => h.at w hw o)
  have hent := h.ent
  simp only [Ent] at hent HC
  clear h
  cases nd with
  | false =>
    go_enter Tryz.func119, Tryz.ntmps119
    go_wp2
    go_ret
    exact ⟨rfl, by0 _ _⟩
  | true =>
    go_enter Tryz.func119, Tryz.ntmps119
    go_wp2
    refine (HC.out _).mono ?_
    rintro e w1 ⟨rfl, hb⟩
    go_wp2
    go_ret
    exact ⟨rfl, hb⟩
set_option maxRecDepth 100000 in
theorem layRow1_any (f : FV) (b : Bool) (Ok : World → Prop) (h : There f b Ok) (w : World) (hw : Ok w) :
    Calls Tryz.prog 87 #[f.val] w fun e w' => e = .returned (.bool (!(f.needed || b))) ∧ Below w.heap.size w w' := by
  have HC := Lib.hid (fun o => ((told_any f b Ok h _ (h.nx _ _ hw (by0 w o))).mono fun _ _ k => ⟨k.1, (by0 w o).trans (k.2.mono (by simp))⟩ : Calls Tryz.prog 88 #[f.val] (w.alloc o) fun e w' => e = .returned (.bool (f.needed || b)) ∧ Below w.heap.size w w'))
  generalize (f.needed || b) = x at *
  obtain ⟨key, nd, tF, tC, lF, lC, rF, rC⟩ := f
  clear h
  go_enter Tryz.func87, Tryz.ntmps87
  go_wp2_with (go_at_call 88; refine (HC.out _).mono ?_; rintro e w1 ⟨rfl, hb⟩)
  cases x <;> (go_ret; exact ⟨rfl, hb⟩)
set_option maxRecDepth 100000 in
theorem thing11_any (f : FV) (b : Bool) (Ok : World → Prop) (h : There f b Ok) (w : World) (hw : Ok w) :
    Calls Tryz.prog 158 #[f.val] w fun e w' => e = .returned (.bool b) ∧ Below w.heap.size w w' := by
  obtain ⟨key, nd, tF, tC, lF, lC, rF, rC⟩ := f
  have HC := Lib.hid (fun o => h.at w hw o)
  have hent := h.ent
  simp only [Ent] at hent HC
  clear h
  go_enter Tryz.func158, Tryz.ntmps158
  go_wp2
  refine (HC.out _).mono ?_
  rintro e w1 ⟨rfl, hb⟩
  go_wp2
  go_ret
  exact ⟨rfl, hb⟩
set_option maxRecDepth 100000 in
theorem row1_any (f : FV) (kb : Nat) (t : (List UInt8)) (w : World) (h : w.cell? ⟨kb, 0, none⟩ = some (.string ⟨t.toArray⟩)) :
    Calls Tryz.prog 116 #[f.val, .pointer (some ⟨kb, 0, none⟩)] w fun e w' => e = .returned (.bool ([f.key] == t)) ∧ Below w.heap.size w w' := by
  have hkb := World.block_lt_of_cell? w _ h
  obtain ⟨key, nd, tF, tC, lF, lC, rF, rC⟩ := f
  by_cases hk : [key] = t
  · subst hk
    have HE := Lib.hid (show ([key] == [key]) = true by simp)
    simp only [HE.out]
    go_enter Tryz.func116, Tryz.ntmps116
    go_wp2
    go_ret
    exact ⟨rfl, by0 _ _⟩
  · have HE : ([key] == t) = false := by simpa using hk
    have HE2 := Lib.hid HE
    simp only [HE2.out]
    clear hk
    go_enter Tryz.func116, Tryz.ntmps116
    go_wp2
    go_ret
    exact ⟨rfl, by0 _ _⟩

/-- a predicate of fields -/
structure Pred (F : FuncId) (C : Array Value) (val : FV → Bool) (fs : List FV) (Ok : World → Prop) : Prop where
  ent : Ent F
  c : ∀ f, f ∈ fs → ∀ w, Ok w → Calls Tryz.prog F (#[f.val] ++ C) w fun e w' => e = .returned (.bool (val f)) ∧ Below w.heap.size w w'
  nx : ∀ w w', Ok w → Below w.heap.size w w' → Ok w'
/-- the place of the first one that is so, or -1 -/
def idxV (val : FV → Bool) : List FV → Nat → Int
  | [], _ => -1
  | f :: fs, i => if val f then (i : Int) else idxV val fs (i + 1)
end Go.Proofs.YtlhmmplkdjibkaaGreatDoor
/- IndexFunc, ContainsFunc at rows of fields. -/
namespace Go.Proofs.YtlhmmplkdjibkaaGreatDoor
open Go.RowKit

theorem idxV_bound (val : FV → Bool) : ∀ (fs : List FV) (i : Nat), -1 ≤ idxV val fs i ∧ idxV val fs i < (i : Int) + fs.length
  | [], i => by simp [idxV]; omega
  | f :: fs, i => by
    rw [idxV]
    have := idxV_bound val fs (i + 1)
    rw [List.length_cons]
    split <;> omega
theorem RowB.cells {b o : Nat} {fs : List FV} {w : World} (h : RowB b o fs w) (k : Nat) (f : FV) (hf : fs[k]? = some f) :
    w.cell? ⟨b, o + k * 5, none⟩ = some (.string ⟨#[f.key]⟩) ∧ w.cell? ⟨b, o + k * 5 + 1, none⟩ = some (.bool f.needed) ∧ w.cell? ⟨b, o + k * 5 + 2, none⟩ = some (.func (.func f.tF) #[] f.tC) ∧
      w.cell? ⟨b, o + k * 5 + 3, none⟩ = some (.func (.func f.lF) #[] f.lC) ∧ w.cell? ⟨b, o + k * 5 + 4, none⟩ = some (.func (.func f.rF) #[] f.rC) :=
  ⟨h k f hf 0 (by decide), h k f hf 1 (by decide), h k f hf 2 (by decide), h k f hf 3 (by decide), h k f hf 4 (by decide)⟩
set_option maxRecDepth 100000 in
set_option maxHeartbeats 1000000 in
theorem indexFunc_any {F : FuncId} {C : Array Value} {val : FV → Bool} {fs : List FV} {Ok : World → Prop} (hP : Pred F C val fs Ok) (b o cap : Nat) (w : World) (hr : RowB b o fs w) (hb : b < w.heap.size) (hn : fs.length < 1000) (hok : Ok w) :
    Calls Tryz.prog 115 #[.slice (some ⟨b, o, none⟩) fs.length cap, .func (.func F) #[] C] w fun e w' => e = .returned (.int .i64 (idxV val fs 0)) ∧ Below w.heap.size w w' := by
  have HP := Lib.hid hP
  have hent := hP.ent
  simp only [Ent] at hent
  have HR := Lib.hid hr
  have HO := Lib.hid hok
  have n1 : (fs.length : Int) < 1000 := by omega
  clear hP hr hok hn
  go_enter Tryz.func115, Tryz.ntmps115
  go_wp2
  go_loopw [8] (fun i wr => ∃ k : Nat, k ≤ fs.length ∧ i = .int .i64 (k : Int) ∧ Hid (idxV val fs 0 = idxV val (fs.drop k) k) ∧ Hid (Below w.heap.size w wr) ∧ Hid (Ok wr)) (fun i _ => (fs.length : Int).toNat - (intOf i).toNat)
  case atStart => exact ⟨0, Nat.zero_le _, rfl, Lib.hid rfl, Lib.hid (Below.refl _ _), HO⟩
  case round =>
    obtain ⟨k, hk, rfl, HI, HB, HO⟩ := hrel
    by_cases hke : k = fs.length
    · have HE := Lib.hid (show idxV val fs 0 = -1 by rw [HI.out, hke, List.drop_length]; rfl)
      have hl : ¬ (k : Int) < (fs.length : Int) := by omega
      clear hk hke
      go_wp2
      go_ret
      exact ⟨by rw [HE.out]; rfl, HB.out⟩
    · have hkl : k < fs.length := by omega
      obtain ⟨f, hf⟩ : ∃ f, fs[k]? = some f := ⟨_, List.getElem?_eq_getElem hkl⟩
      have HF := Lib.hid hf
      obtain ⟨c0, c1, c2, c3, c4⟩ := (HR.out.next (HB.out.block b hb)).cells k f hf
      have HC := Lib.hid (HP.out.c f (List.mem_of_getElem? hf) wr HO.out)
      have HD := Lib.hid (show idxV val (fs.drop k) k = if val f then (k : Int) else idxV val (fs.drop (k + 1)) (k + 1) by
        rw [List.drop_eq_getElem_cons hkl, idxV]
        rw [List.getElem?_eq_getElem hkl] at hf
        cases hf
        rfl)
      have hl : (k : Int) < (fs.length : Int) := by omega
      have i0 : (0 : Int) ≤ (k : Int) := by omega
      generalize hv : val f = v at *
      clear hf hke
      obtain ⟨key, nd, tF, tC, lF, lC, rF, rC⟩ := f
      simp only at c0 c1 c2 c3 c4
      cases v with
      | true =>
        have HE := Lib.hid (show idxV val fs 0 = (k : Int) by rw [HI.out, HD.out]; rfl)
        go_wp2
        refine HC.out.mono ?_
        rintro e w1 ⟨rfl, hb1⟩
        go_wp2
        go_ret
        exact ⟨by rw [HE.out]; rfl, HB.out.trans (hb1.mono HB.out.size)⟩
      | false =>
        have HE := Lib.hid (show idxV val fs 0 = idxV val (fs.drop (k + 1)) (k + 1) by rw [HI.out, HD.out]; rfl)
        go_wp2
        refine HC.out.mono ?_
        rintro e w1 ⟨rfl, hb1⟩
        have HB2 := Lib.hid (HB.out.trans (hb1.mono HB.out.size))
        have HO2 := Lib.hid (HP.out.nx _ _ HO.out hb1)
        go_wp2
        go_roundw
        case rel => exact ⟨k + 1, hkl, by go_num, HE, HB2, HO2⟩
        case measure => simp [intOf] <;> omega
set_option maxRecDepth 100000 in
theorem containsFunc_any {F : FuncId} {C : Array Value} {val : FV → Bool} {fs : List FV} {Ok : World → Prop} (hP : Pred F C val fs Ok) (b o cap : Nat) (w : World) (hr : RowB b o fs w) (hb : b < w.heap.size) (hn : fs.length < 1000) (hok : Ok w) :
    Calls Tryz.prog 118 #[.slice (some ⟨b, o, none⟩) fs.length cap, .func (.func F) #[] C] w fun e w' => e = .returned (.bool (fs.any val)) ∧ Below w.heap.size w w' := by
  have HC := Lib.hid (indexFunc_any hP b o cap w hr hb hn hok)
  have hd : fs.any val = decide ((0 : Int) ≤ idxV val fs 0) := by
    have : ∀ (fs : List FV) (i : Nat), fs.any val = decide ((0 : Int) ≤ idxV val fs i) := by
      intro fs
      induction fs with
      | nil => intro i; simp [idxV]
      | cons f fs ih =>
        intro i
        rw [List.any_cons, idxV]
        cases h : val f with
        | true => simp
        | false => simp only [Bool.false_or, Bool.false_eq_true, if_false]; exact ih (i + 1)
    exact this fs 0
  rw [hd]
  generalize idxV val fs 0 = x at *
  clear hP hr hb hok hd
  go_enter Tryz.func118, Tryz.ntmps118
  go_wp2_with (go_at_call 115; refine HC.out.mono ?_; rintro e w1 ⟨rfl, hb⟩)
  go_ret
  exact ⟨rfl, hb⟩
end Go.Proofs.YtlhmmplkdjibkaaGreatDoor
/- Clone and DeleteFunc at rows of fields. -/
namespace Go.Proofs.YtlhmmplkdjibkaaGreatDoor
open Go.RowKit

theorem infoFa : (Tryz.prog.info? 106).map (fun i => (i.zero, i.size, i.bytes)) = some (some (.agg #[.string ⟨#[]⟩, .bool false, .nilFunc, .nilFunc, .nilFunc]), 5, 48) := by kernel_rfl
theorem infoFb : ∃ i0, Tryz.prog.info? 106 = some i0 ∧ i0.zero = some (.agg #[.string ⟨#[]⟩, .bool false, .nilFunc, .nilFunc, .nilFunc]) ∧ i0.size = 5 ∧ i0.bytes = 48 := info_parts infoFa

def cellsFs (fs : List FV) : List Value := fs.flatMap FV.cells
theorem FV.cells_length (f : FV) : f.cells.length = 5 := rfl
theorem cellsFs_length : ∀ fs : List FV, (cellsFs fs).length = fs.length * 5
  | [] => rfl
  | f :: fs => by rw [cellsFs, List.flatMap_cons, List.length_append, FV.cells_length, List.length_cons]; have := cellsFs_length fs; rw [cellsFs] at this; omega
theorem cellsFs_get : ∀ (fs : List FV) (i : Nat) (f : FV), fs[i]? = some f → ∀ j, j < 5 → (cellsFs fs)[i * 5 + j]? = f.cells[j]?
  | g :: fs, 0, f, h, j, hj => by
    cases h
    rw [cellsFs, List.flatMap_cons, List.getElem?_append_left (by rw [FV.cells_length]; omega)]
    rw [show 0 * 5 + j = j by omega]
  | g :: fs, i + 1, f, h, j, hj => by
    rw [cellsFs, List.flatMap_cons, List.getElem?_append_right (by rw [FV.cells_length]; omega), FV.cells_length]
    rw [show (i + 1) * 5 + j - 5 = i * 5 + j by omega]
    exact cellsFs_get fs i f (by simpa using h) j hj
theorem cellsFs_inv : ∀ (fs : List FV) (k : Nat), k < fs.length * 5 → ∃ f, fs[k / 5]? = some f ∧ (cellsFs fs)[k]? = f.cells[k % 5]? := fun fs k hk => by
  have h1 : k / 5 < fs.length := by omega
  refine ⟨_, List.getElem?_eq_getElem h1, ?_⟩
  have := cellsFs_get fs (k / 5) _ (List.getElem?_eq_getElem h1) (k % 5) (by omega)
  rwa [show k / 5 * 5 + k % 5 = k by omega] at this

/-- a row of one's own: a block that holds fields -/
structure OwnF (c cap : Nat) (fs : List FV) (w : World) : Prop where
  h : ∃ cs, w.heap[c]? = some (.cells cs 106 (0, 0)) ∧ cs.size = cap * 5
  r : RowB c 0 fs w
  n : fs.length ≤ cap
theorem OwnF.lt {c cap : Nat} {fs : List FV} {w : World} (h : OwnF c cap fs w) : c < w.heap.size := by
  obtain ⟨cs, h1, _⟩ := h.h
  exact lit_lt h1
theorem OwnF.next {c cap : Nat} {fs : List FV} {w w' : World} (h : OwnF c cap fs w) (he : w'.heap[c]? = w.heap[c]?) : OwnF c cap fs w' := by
  obtain ⟨cs, h1, h2⟩ := h.h
  exact ⟨⟨cs, he.trans h1, h2⟩, h.r.next he, h.n⟩

set_option maxRecDepth 100000 in
set_option maxHeartbeats 1000000 in
theorem fclone_any (fs : List FV) (b o cap : Nat) (w : World) (hr : RowB b o fs w) (hb : b < w.heap.size) (hn : fs.length < 1000) (h0 : fs ≠ []) :
    Calls Tryz.prog 86 #[.slice (some ⟨b, o, none⟩) fs.length cap] w fun e w' => ∃ c cap', e = .returned (.slice (some ⟨c, 0, none⟩) fs.length cap') ∧ w.heap.size ≤ c ∧ OwnF c cap' fs w' ∧ Below w.heap.size w w' := by
  obtain ⟨i0, hi, hz, hs, hby⟩ := infoFb
  have HR := Lib.hid hr
  have hcl := cellsFs_length fs
  have hl0 : 0 < fs.length := List.length_pos_iff.2 h0
  have HL := Lib.hid hl0
  have n1 : (fs.length : Int) < 1000 := by omega
  have HCE : Hid (∀ (j : Nat) (u : Value), (cellsFs fs)[j]? = some u → (w.alloc (.cells #[] 106)).cell? ((⟨b, o, none⟩ : Addr).add j) = some u) := Lib.hid fun j u hu => by
    have hj : j < fs.length * 5 := by rw [← hcl]; exact (List.getElem?_eq_some_iff.1 hu).1
    obtain ⟨f, hf, hc⟩ := cellsFs_inv fs j hj
    have := HR.out (j / 5) f hf (j % 5) (by omega)
    rw [Addr.add_mid, World.cell?_alloc_lt _ _ ⟨b, o + j, none⟩ hb, ← hu, hc, ← this]
    rw [show o + (j / 5 * 5 + j % 5) = o + j by omega]
  have HON : Hid (∀ u ∈ cellsFs fs, u.oneCell' = true) := Lib.hid fun u hu => by
    obtain ⟨f, _, hf⟩ := List.mem_flatMap.1 hu
    simp only [FV.cells, List.mem_cons, List.not_mem_nil, or_false] at hf
    rcases hf with rfl | rfl | rfl | rfl | rfl <;> rfl
  have hnil := fun w => Lib.run_eql_slice_nil (P := Tryz.prog) w 60 106 (some ⟨b, o, none⟩) fs.length cap 0 0 Tryz.underlying60
  simp only [Option.isNone_some] at hnil
  clear hr h0 hl0
  go_enter Tryz.func86, Tryz.ntmps86
  go_wp2_with (at_builtin; refine wpList_append_own_at _ rfl _ _ 60 rfl w.heap.size 106 i0 (.agg #[.string ⟨#[]⟩, .bool false, .nilFunc, .nilFunc, .nilFunc]) 5 48 Tryz.underlying60 hi hz hs hby rfl (by decide) (.slice (some ⟨w.heap.size, 0, none⟩) 0 0) 0 [] rfl ⟨rfl, .inr ⟨w.heap.size, 0, #[], rfl, Nat.le_refl _, heap_alloc_new _ _, Nat.le_refl _, Nat.zero_le _, rfl, rfl⟩⟩ ⟨b, o, none⟩ fs.length cap (cellsFs fs) rfl hcl HCE.out HON.out (by unfold maxLen; omega) (by omega) (by simp) ?_; intro v' w1 hown hg _ hat)
  go_wp2
  go_ret
  rcases hown.2 with ⟨_, hn0⟩ | ⟨c, cap', cs, rfl, hc0, hc1, hc2, hc3, hc4, hc5⟩
  · have := HL.out; omega
  · have hw : Below w.heap.size w w1 := ((by0 w _).grown hg (by simp) (fun k e => by cases e; exact Nat.le_refl _))
    refine ⟨c, cap', by simp, hc0, ⟨⟨cs, hc1, hc4⟩, fun i f hf j hj => ?_, by simpa using hc2⟩, hw⟩
    have hif : i < fs.length := (List.getElem?_eq_some_iff.1 hf).1
    rw [Nat.zero_add, lit_cell hc1, ← Array.getElem?_toList, ← cellsFs_get fs i f hf j hj, ← List.nil_append (cellsFs fs), ← hc5, List.getElem?_take, if_pos (by simp; omega)]
end Go.Proofs.YtlhmmplkdjibkaaGreatDoor
/- DeleteFunc at rows of fields. -/
namespace Go.Proofs.YtlhmmplkdjibkaaGreatDoor
open Go.RowKit

/-- five cells, written -/
abbrev set5 (w : World) (c k : Nat) (f : FV) : World := ((((w.setCell ⟨c, k, none⟩ (.string ⟨#[f.key]⟩)).setCell ⟨c, k + 1, none⟩ (.bool f.needed)).setCell ⟨c, k + 2, none⟩ (.func (.func f.tF) #[] f.tC)).setCell ⟨c, k + 3, none⟩ (.func (.func f.lF) #[] f.lC)).setCell ⟨c, k + 4, none⟩ (.func (.func f.rF) #[] f.rC)
theorem set5_block {w : World} {c k : Nat} {f : FV} {cs : Array Value} {t : TypeId} (h : w.heap[c]? = some (.cells cs t (0, 0))) :
    (set5 w c k f).heap[c]? = some (.cells (((((cs.setIfInBounds k (.string ⟨#[f.key]⟩)).setIfInBounds (k + 1) (.bool f.needed)).setIfInBounds (k + 2) (.func (.func f.tF) #[] f.tC)).setIfInBounds (k + 3) (.func (.func f.lF) #[] f.lC)).setIfInBounds (k + 4) (.func (.func f.rF) #[] f.rC)) t (0, 0)) :=
  lit_set _ (lit_set _ (lit_set _ (lit_set _ (lit_set _ h))))
theorem set5_only (w : World) (c k : Nat) (f : FV) : Only c w (set5 w c k f) := ((((Only.set c k _ w).trans (Only.set c _ _ _)).trans (Only.set c _ _ _)).trans (Only.set c _ _ _)).trans (Only.set c _ _ _)
theorem set5_far {w : World} {c k : Nat} {f : FV} {cs : Array Value} {t : TypeId} (h : w.heap[c]? = some (.cells cs t (0, 0))) (i : Nat) (hi : i < k ∨ k + 5 ≤ i) : (set5 w c k f).cell? ⟨c, i, none⟩ = w.cell? ⟨c, i, none⟩ := by
  rw [lit_cell (set5_block h), lit_cell h]
  simp only [Array.getElem?_setIfInBounds]
  rw [if_neg (by omega), if_neg (by omega), if_neg (by omega), if_neg (by omega), if_neg (by omega)]
theorem set5_at {w : World} {c k : Nat} {f : FV} {cs : Array Value} {t : TypeId} (h : w.heap[c]? = some (.cells cs t (0, 0))) (hk : k + 5 ≤ cs.size) (j : Nat) (hj : j < 5) : (set5 w c k f).cell? ⟨c, k + j, none⟩ = f.cells[j]? := by
  rw [lit_cell (set5_block h)]
  simp only [Array.getElem?_setIfInBounds, Array.size_setIfInBounds]
  obtain rfl | rfl | rfl | rfl | rfl : j = 0 ∨ j = 1 ∨ j = 2 ∨ j = 3 ∨ j = 4 := by omega
  · rw [if_neg (by omega), if_neg (by omega), if_neg (by omega), if_neg (by omega), if_pos (by omega), if_pos (by omega)]; rfl
  · rw [if_neg (by omega), if_neg (by omega), if_neg (by omega), if_pos rfl, if_pos (by omega)]; rfl
  · rw [if_neg (by omega), if_neg (by omega), if_pos rfl, if_pos (by omega)]; rfl
  · rw [if_neg (by omega), if_pos rfl, if_pos (by omega)]; rfl
  · rw [if_pos rfl, if_pos (by omega)]; rfl

/-- what lies while fields are taken out: those that stay, those that are to be looked at -/
structure Del (c cap : Nat) (kept rest : List FV) (j : Nat) (w0 wr : World) : Prop where
  o : Only c w0 wr
  h : ∃ cs, wr.heap[c]? = some (.cells cs 106 (0, 0)) ∧ cs.size = cap * 5
  a : RowB c 0 kept wr
  b : RowB c (j * 5) rest wr
theorem Del.lt {c cap j : Nat} {kept rest : List FV} {w0 wr : World} (h : Del c cap kept rest j w0 wr) : c < wr.heap.size := by
  obtain ⟨cs, h1, _⟩ := h.h
  exact lit_lt h1
theorem Del.next {c cap j : Nat} {kept rest : List FV} {w0 wr wx : World} (h : Del c cap kept rest j w0 wr) (hb : Below wr.heap.size wr wx) : Del c cap kept rest j w0 wx := by
  have he := hb.block c h.lt
  obtain ⟨cs, h1, h2⟩ := h.h
  exact ⟨h.o.trans (Only.of_below hb), ⟨cs, he.trans h1, h2⟩, h.a.next he, h.b.next he⟩
theorem Del.skip {c cap j : Nat} {kept rest : List FV} {f : FV} {w0 wr : World} (h : Del c cap kept (f :: rest) j w0 wr) : Del c cap kept rest (j + 1) w0 wr :=
  ⟨h.o, h.h, h.a, by have := h.b.tail 1; rw [show (j + 1) * 5 = j * 5 + 1 * 5 by omega]; exact this⟩
theorem Del.put {c cap j : Nat} {kept rest : List FV} {f : FV} {w0 wr : World} (h : Del c cap kept (f :: rest) j w0 wr) (hk : kept.length < j) (hj : j < cap) : Del c cap (kept ++ [f]) rest (j + 1) w0 (set5 wr c (kept.length * 5) f) := by
  obtain ⟨cs, h1, h2⟩ := h.h
  refine ⟨h.o.trans (set5_only _ _ _ _), ⟨_, set5_block h1, by simp [h2]⟩, fun i g hg m hm => ?_, fun i g hg m hm => ?_⟩
  · by_cases hi : i < kept.length
    · rw [List.getElem?_append_left hi] at hg
      rw [set5_far h1 _ (.inl (by omega))]
      exact h.a i g hg m hm
    · rw [List.getElem?_append_right (by omega)] at hg
      obtain rfl : i = kept.length := by
        have := (List.getElem?_eq_some_iff.1 hg).1
        simp at this
        omega
      rw [Nat.sub_self] at hg
      cases hg
      rw [show 0 + (kept.length * 5 + m) = kept.length * 5 + m by omega]
      exact set5_at h1 (by omega) m hm
  · rw [set5_far h1 _ (.inr (by omega))]
    have := h.skip.b i g hg m hm
    exact this

/-- clear of the row's end -/
theorem clear_row {c cap k : Nat} {cs : Array Value} {w : World} (h : w.heap[c]? = some (.cells cs 106 (0, 0))) (hs : cs.size = cap * 5) (n : Nat) (hk : k < n) (hn : n ≤ cap) :
    ∃ w', (∀ ty x, (Go.Builtin.clear_ #[60] ty #[.slice (some ⟨c, k * 5, none⟩) (n - k) x]).run Tryz.prog w = .ok (.tuple #[]) w') ∧ Only c w w' ∧ (∃ cs', w'.heap[c]? = some (.cells cs' 106 (0, 0)) ∧ cs'.size = cap * 5) ∧ ∀ i, i < k * 5 → w'.cell? ⟨c, i, none⟩ = w.cell? ⟨c, i, none⟩ := by
  obtain ⟨i0, hi, hz, _, _⟩ := infoFb
  have hzv : ∀ w, (zeroValue 106).run Tryz.prog w = .ok (.agg #[.string ⟨#[]⟩, .bool false, .nilFunc, .nilFunc, .nilFunc]) w := fun w => by simp [zeroValue, typeInfo, hi, hz]
  have hzl : ∀ m, (Go.Builtin.zeroCells (Value.agg #[.string ⟨#[]⟩, .bool false, .nilFunc, .nilFunc, .nilFunc]).cells m).toList.length = m * 5 := fun m => by simp [Go.Builtin.zeroCells, Value.cells]
  have hz1 : ∀ m, ∀ v ∈ (Go.Builtin.zeroCells (Value.agg #[.string ⟨#[]⟩, .bool false, .nilFunc, .nilFunc, .nilFunc]).cells m).toList, v.oneCell' = true := fun m v hv => by
    simp only [Go.Builtin.zeroCells, Value.cells] at hv
    simp at hv
    obtain ⟨a, _, rfl⟩ := hv
    have : a % 5 < 5 := Nat.mod_lt _ (by decide)
    generalize a % 5 = q at *
    obtain rfl | rfl | rfl | rfl | rfl : q = 0 ∨ q = 1 ∨ q = 2 ∨ q = 3 ∨ q = 4 := by omega
    all_goals rfl
  have hst := run_storeCells_at (P := Tryz.prog) c (k * 5) 106 (Go.Builtin.zeroCells (Value.agg #[.string ⟨#[]⟩, .bool false, .nilFunc, .nilFunc, .nilFunc]).cells (n - k)).toList 0 cs w h (by rw [hzl]; omega) (hz1 _)
  rw [hzl, Nat.add_zero] at hst
  obtain ⟨m, hm⟩ : ∃ m, n - k = m + 1 := ⟨n - k - 1, by omega⟩
  obtain ⟨row, hrow⟩ : ∃ row : List Value, cs.toList.take (k * 5) ++ (Go.Builtin.zeroCells (Value.agg #[.string ⟨#[]⟩, .bool false, .nilFunc, .nilFunc, .nilFunc]).cells (n - k)).toList ++ cs.toList.drop (k * 5 + (n - k) * 5) = row := ⟨_, rfl⟩
  rw [hrow] at hst
  have hzk := hzl (n - k)
  refine ⟨w.setRow c row.toArray, fun ty x => ?_, ⟨rfl, rfl, rfl, by simp, fun q _ hq => setRow_other w c q _ hq⟩, ⟨_, setRow_heap w c cs _ _ _ h, ?_⟩, fun i hik => ?_⟩
  · rw [hm] at hst ⊢
    simp [Go.Builtin.clear_, run_underlying Tryz.underlying60, hzv, hst]
  · rw [← hrow]
    simp only [List.size_toArray, List.length_append, List.length_take, List.length_drop, Array.length_toList, hzk]
    omega
  · rw [lit_cell (setRow_heap w c cs _ _ _ h), lit_cell h, List.getElem?_toArray, ← hrow, List.append_assoc, List.getElem?_append_left (by simp; omega), List.getElem?_take, if_pos hik, Array.getElem?_toList]

theorem idxV_ge (val : FV → Bool) : ∀ (fs : List FV) (i : Nat), idxV val fs i = -1 ∨ (i : Int) ≤ idxV val fs i
  | [], i => .inl rfl
  | f :: fs, i => by
    rw [idxV]
    have := idxV_ge val fs (i + 1)
    split <;> omega
theorem idxV_none {val : FV → Bool} : ∀ (fs : List FV) (i : Nat), idxV val fs i = -1 → fs.filter (fun f => !val f) = fs
  | [], _, _ => rfl
  | f :: fs, i, h => by
    rw [idxV] at h
    by_cases hv : val f = true
    · rw [if_pos hv] at h; omega
    · rw [if_neg hv] at h
      rw [List.filter_cons, if_pos (by simpa using hv), idxV_none fs (i + 1) h]
theorem idxV_some {val : FV → Bool} : ∀ (fs : List FV) (i k : Nat), idxV val fs i = ((i + k : Nat) : Int) → ∃ f, fs[k]? = some f ∧ val f = true ∧ (fs.take (k + 1)).filter (fun f => !val f) = fs.take k
  | [], i, k, h => by rw [idxV] at h; omega
  | f :: fs, i, 0, h => by
    rw [idxV] at h
    by_cases hv : val f = true
    · exact ⟨f, rfl, hv, by simp [hv]⟩
    · rw [if_neg hv] at h
      have := idxV_ge val fs (i + 1)
      omega
  | f :: fs, i, k + 1, h => by
    rw [idxV] at h
    by_cases hv : val f = true
    · rw [if_pos hv] at h; omega
    · rw [if_neg hv] at h
      obtain ⟨g, h1, h2, h3⟩ := idxV_some fs (i + 1) k (by rw [h]; congr 1; omega)
      refine ⟨g, by simpa using h1, h2, ?_⟩
      rw [List.take_succ_cons, List.filter_cons, if_pos (by simpa using hv), h3, List.take_succ_cons]

set_option maxRecDepth 100000 in
set_option maxHeartbeats 2000000 in
theorem deleteFunc_any {F : FuncId} {val : FV → Bool} {fs : List FV} {Ok : World → Prop} (hP : Pred F #[] val fs Ok) (c cap : Nat) (w : World) (hr : OwnF c cap fs w) (hn : fs.length < 1000) (hok : Ok w) (hoc : ∀ w w', Ok w → Only c w w' → Ok w') :
    Calls Tryz.prog 85 #[.slice (some ⟨c, 0, none⟩) fs.length cap, .func (.func F) #[] #[]] w fun e w' => ∃ m : Nat, e = .returned (.slice (some ⟨c, 0, none⟩) m cap) ∧ m = (fs.filter (fun f => !val f)).length ∧ OwnF c cap (fs.filter (fun f => !val f)) w' ∧ Only c w w' := by
  have HP := Lib.hid hP
  have hent := hP.ent
  simp only [Ent] at hent
  have HI := Lib.hid (indexFunc_any hP c 0 cap w hr.r hr.lt hn hok)
  have n1 : (fs.length : Int) < 1000 := by omega
  obtain ⟨ix, hix⟩ : ∃ ix, idxV val fs 0 = ix := ⟨_, rfl⟩
  have hbd := idxV_bound val fs 0
  rw [hix] at HI hbd
  by_cases h0 : ix = -1
  · have HF := Lib.hid (idxV_none fs 0 (hix.trans h0))
    rw [HF.out]
    subst h0
    have HR := Lib.hid hr
    clear hP hok hr hix hbd
    go_enter Tryz.func85, Tryz.ntmps85
    go_wp2_with (go_at_call 115; refine HI.out.mono ?_; rintro e w1 ⟨rfl, hb⟩)
    go_ret
    exact ⟨fs.length, rfl, rfl, HR.out.next (hb.block c HR.out.lt), Only.of_below hb⟩
  · obtain ⟨k, rfl⟩ : ∃ k : Nat, ix = (k : Int) := ⟨ix.toNat, by omega⟩
    have hkl : k < fs.length := by omega
    obtain ⟨g, hg1, hg2, hg3⟩ := idxV_some fs 0 k (by rw [hix]; simp)
    obtain ⟨cs, hc1, hc2⟩ := hr.h
    have hcap := hr.n
    have HD0 : Hid (Del c cap ((fs.take (k + 1)).filter (fun f => !val f)) (fs.drop (k + 1)) (k + 1) w w) := Lib.hid ⟨Only.refl _ _, ⟨cs, hc1, hc2⟩, by rw [hg3]; exact fun i f hf j hj => hr.r i f (by rw [List.getElem?_take] at hf; split at hf <;> simp_all) j hj, by have := hr.r.tail (k + 1); rw [Nat.zero_add] at this; exact this⟩
    have HK0 : Hid (((fs.take (k + 1)).filter (fun f => !val f)).length = k) := Lib.hid (by rw [hg3, List.length_take]; omega)
    have HOK := Lib.hid hok
    have HOC := Lib.hid hoc
    have hne : ((k : Int) == -1) = false := by rw [beq_eq_false_iff_ne]; omega
    have HCAP := Lib.hid hcap
    clear hP hok hr hix hbd hg1 hg2 hg3 hc1 hc2 h0 hoc hcap
    go_enter Tryz.func85, Tryz.ntmps85
    go_wp2_with (go_at_call 115; refine HI.out.mono ?_; rintro e w1 ⟨rfl, hb⟩; have HD1 := Lib.hid (HD0.out.next hb); have HO1 := Lib.hid (HP.out.nx _ _ HOK.out hb))
    go_loopw [5, 6, 7] (fun i j _ wr => ∃ a b : Nat, b ≤ fs.length ∧ a < b ∧ i = .int .i64 (a : Int) ∧ j = .int .i64 (b : Int) ∧ Hid (((fs.take b).filter (fun f => !val f)).length = a) ∧ Hid (Del c cap ((fs.take b).filter (fun f => !val f)) (fs.drop b) b w wr) ∧ Hid (Ok wr)) (fun _ j _ _ => (fs.length : Int).toNat - (intOf j).toNat)
    case atStart => exact ⟨k, k + 1, hkl, by omega, rfl, by go_num, HK0, HD1, HO1⟩
    case round =>
      obtain ⟨a, b, hb0, hab, rfl, rfl, HA, HD, HO⟩ := hrel
      by_cases hbe : b = fs.length
      · subst hbe
        obtain ⟨cs, hc1, hc2⟩ := HD.out.h
        obtain ⟨w3, hcl, ho3, ⟨cs3, hc3, hc4⟩, hk3⟩ := clear_row (cap := cap) (k := a) hc1 hc2 fs.length hab HCAP.out
        have hl : ¬ (fs.length : Int) < (fs.length : Int) := by omega
        have i0 : (0 : Int) ≤ (a : Int) := by omega
        have i1 : (a : Int) ≤ (fs.length : Int) := by omega
        have hcapn : fs.length ≤ cap := HCAP.out
        clear hc1 hc2 hb0
        go_wp2
        go_ret
        have ht : fs.take fs.length = fs := List.take_length
        rw [ht] at HA HD
        refine ⟨a, rfl, HA.out.symm, ⟨⟨cs3, hc3, hc4⟩, fun i f hf j hj => ?_, by have := HA.out; omega⟩, HD.out.o.trans ho3⟩
        have hi := (List.getElem?_eq_some_iff.1 hf).1
        have hA := HA.out
        rw [hk3 _ (by omega)]
        exact HD.out.a i f hf j hj
      · have hbl : b < fs.length := by omega
        obtain ⟨f, hf⟩ : ∃ f, fs[b]? = some f := ⟨_, List.getElem?_eq_getElem hbl⟩
        have hdr : fs.drop b = f :: fs.drop (b + 1) := by
          rw [List.drop_eq_getElem_cons hbl]
          rw [List.getElem?_eq_getElem hbl] at hf
          cases hf
          rfl
        have htk : fs.take (b + 1) = fs.take b ++ [f] := by rw [List.take_add_one, hf]; rfl
        have HD2 := HD
        rw [hdr] at HD2
        obtain ⟨c0, c1, c2, c3, c4⟩ := HD2.out.b.cells 0 f rfl
        rw [show b * 5 + 0 * 5 = b * 5 by omega] at c0 c1 c2 c3 c4
        have hb1000 : (b : Int) < 1000 := by omega
        have ha1000 : (a : Int) < 1000 := by omega
        have hl : (b : Int) < (fs.length : Int) := by omega
        have i0 : (0 : Int) ≤ (b : Int) := by omega
        have i1 : (0 : Int) ≤ (a : Int) := by omega
        have i2 : (a : Int) < (fs.length : Int) := by omega
        have HC := Lib.hid (fun w0 h0 => HP.out.c f (List.mem_of_getElem? hf) w0 h0)
        have HTK := Lib.hid htk
        have hclt := HD2.out.lt
        obtain ⟨cs, hc1, hc2⟩ := HD2.out.h
        have HC1 := Lib.hid hc1
        have hcsz : b < cap := Nat.lt_of_lt_of_le hbl HCAP.out
        have HCSZ := Lib.hid hcsz
        have HC2 := Lib.hid hc2
        generalize hv : val f = v at *
        have HV := Lib.hid hv
        have HF5 : Hid (f.val = f.val) := Lib.hid rfl
        clear hf hdr htk hc1 hc2 hcsz hv hbe
        go_wp2
        have HDa := Lib.hid (HD2.out.next (by0 wr (.cells #[.string ⟨#[f.key]⟩, .bool f.needed, .func (.func f.tF) #[] f.tC, .func (.func f.lF) #[] f.lC, .func (.func f.rF) #[] f.rC] 106)))
        have HOa := Lib.hid (HP.out.nx _ _ HO.out (by0 wr (.cells #[.string ⟨#[f.key]⟩, .bool f.needed, .func (.func f.tF) #[] f.tC, .func (.func f.lF) #[] f.lC, .func (.func f.rF) #[] f.rC] 106)))
        have HN := Lib.hid (heap_alloc_new wr (.cells #[.string ⟨#[f.key]⟩, .bool f.needed, .func (.func f.tF) #[] f.tC, .func (.func f.lF) #[] f.lC, .func (.func f.rF) #[] f.rC] 106))
        generalize (wr.alloc (.cells #[.string ⟨#[f.key]⟩, .bool f.needed, .func (.func f.tF) #[] f.tC, .func (.func f.lF) #[] f.lC, .func (.func f.rF) #[] f.rC] 106)) = wa at *
        generalize wr.heap.size = N at *
        refine (HC.out wa HOa.out).mono ?_
        rintro e w2 ⟨rfl, hb2⟩
        have HDb := Lib.hid (HDa.out.next hb2)
        have HOb := Lib.hid (HP.out.nx _ _ HOa.out hb2)
        have hN2 := (hb2.block N (lit_lt HN.out)).trans HN.out
        have n0 := (lit_cell hN2 0).trans rfl
        have n1 := (lit_cell hN2 1).trans rfl
        have n2 := (lit_cell hN2 2).trans rfl
        have n3 := (lit_cell hN2 3).trans rfl
        have n4 := (lit_cell hN2 4).trans rfl
        clear c0 c1 c2 c3 c4 hN2 hclt hb2 HDa HOa HN HD HD2
        cases v with
        | true =>
          go_wp2
          go_roundw
          case rel =>
            have e : (fs.take (b + 1)).filter (fun f => !val f) = (fs.take b).filter (fun f => !val f) := by rw [HTK.out, List.filter_append]; simp [HV.out]
            refine ⟨a, b + 1, hbl, by omega, rfl, by go_num, Lib.hid (by rw [e]; exact HA.out), Lib.hid (by rw [e]; exact HDb.out.skip), HOb⟩
          case measure => simp [intOf] <;> omega
        | false =>
          obtain ⟨cs, hc1, hc2⟩ := HDb.out.h
          have hcz : ∀ j, j < 5 → ∃ x, w2.cell? ⟨c, a * 5 + j, none⟩ = some x := fun j hj => ⟨_, (lit_cell hc1 _).trans (Array.getElem?_eq_getElem (by have := HCSZ.out; omega))⟩
          obtain ⟨x0, hx0⟩ := hcz 0 (by decide)
          obtain ⟨x1, hx1⟩ := hcz 1 (by decide)
          obtain ⟨x2, hx2⟩ := hcz 2 (by decide)
          obtain ⟨x3, hx3⟩ := hcz 3 (by decide)
          obtain ⟨x4, hx4⟩ := hcz 4 (by decide)
          rw [Nat.add_zero] at hx0
          have f0 := lit_free hc1 (a * 5)
          have f1 := lit_free hc1 (a * 5 + 1)
          have f2 := lit_free hc1 (a * 5 + 2)
          have f3 := lit_free hc1 (a * 5 + 3)
          have f4 := lit_free hc1 (a * 5 + 4)
          have HPUT := Lib.hid (HDb.out.put (by have := HA.out; omega) HCSZ.out)
          rw [HA.out] at HPUT
          have HOP := Lib.hid (HOC.out _ _ HOb.out (set5_only w2 c (a * 5) f))
          clear hc1 hc2 hcz
          go_wp2
          go_roundw
          case rel =>
            have e : (fs.take (b + 1)).filter (fun f => !val f) = (fs.take b).filter (fun f => !val f) ++ [f] := by rw [HTK.out, List.filter_append]; simp [HV.out]
            refine ⟨a + 1, b + 1, hbl, by omega, by go_num, by go_num, Lib.hid (by rw [e, List.length_append, HA.out]; rfl), Lib.hid (by rw [e]; exact HPUT.out), HOP⟩
          case measure => simp [intOf] <;> omega
end Go.Proofs.YtlhmmplkdjibkaaGreatDoor
/- Things as bytes: the document's rows, as lists; the reference's functions for numbers. -/
namespace Go.Proofs.YtlhmmplkdjibkaaGreatDoor
open Go.RowKit

set_option maxRecDepth 100000 in
set_option maxHeartbeats 1000000 in
theorem pbytes_any (n k : Nat) (w : World) (hn : n < 18446744073709551616) (hk : k ≤ 8) :
    Calls Tryz.prog 109 #[.int .u64 (n : Int), .int .i64 (k : Int)] w fun e w' => e = .returned (.string ⟨(be n k).toArray⟩) ∧ Below w.heap.size w w' := by
  go_enter Tryz.func109, Tryz.ntmps109
  go_wp2
  go_loopw [0, 5, 6] (fun v s i wr => ∃ j q : Nat, ∃ D : List UInt8, j ≤ k ∧ Hid (n / 256 ^ j = q) ∧ Hid (D = be n j) ∧ D.length = j ∧ v = .int .u64 (q : Int) ∧ s = .string ⟨D.toArray⟩ ∧ i = .int .i64 (j : Int) ∧ Below w.heap.size w wr)
    (fun _ _ i _ => k - (intOf i).toNat)
  case atStart => exact ⟨0, n, [], by omega, Lib.hid (by simp), Lib.hid rfl, rfl, rfl, rfl, rfl, Below.refl _ _⟩
  case round =>
    obtain ⟨j, q, D, hj, HQ, HD, hDl, rfl, rfl, rfl, hbe⟩ := hrel
    have hqn : q < 18446744073709551616 := by have := Nat.div_le_self n (256 ^ j); rw [HQ.out] at this; omega
    by_cases hlt : j < k
    · have hz := hbe.size
      have hX := byte_mod q
      have HP := Lib.hid (strAdd [UInt8.ofNat q] D)
      have HD2 := Lib.hid (show [UInt8.ofNat q] ++ D = be n (j + 1) by rw [HD.out, be, HQ.out]; rfl)
      have hconv := run_convert_bytes_back (P := Tryz.prog) (wr.alloc (.cells #[.int .u8 ((q : Int) % (256 : Int))] 5)) 77 9 5 ⟨wr.heap.size, 0, none⟩ 1 [UInt8.ofNat q] Tryz.underlying77 Tryz.underlying5 Tryz.underlying9 (oneByte wr _ _ hX)
      simp only [List.length_cons, List.length_nil, Nat.zero_add] at hconv
      clear hX
      have hlt2 : (j : Int) < (k : Int) := by omega
      go_wp2
      go_roundw
      case rel => exact ⟨j + 1, q / 256, [UInt8.ofNat q] ++ D, by omega, Lib.hid (by rw [Nat.pow_succ, ← Nat.div_div_eq_div_mul, HQ.out]), HD2, by simp; omega, by go_num, congrArg Value.string HP.out, by go_num, hbe.alloc hz _⟩
      case measure => simp [intOf]; omega
    · have ek : j = k := by omega
      have hlt2 : ¬ (j : Int) < (k : Int) := by omega
      go_wp2
      go_ret
      exact ⟨by rw [HD.out, ek]; rfl, hbe⟩

set_option maxHeartbeats 400000 in
theorem pone_any (n : Nat) (w : World) :
    Calls Tryz.prog 108 #[.int .u64 (n : Int)] w fun e w' => e = .returned (.string ⟨[UInt8.ofNat n].toArray⟩) ∧ Below w.heap.size w w' := by
  have hX := byte_mod n
  have hconv := run_convert_bytes_back (P := Tryz.prog) (w.alloc (.cells #[.int .u8 ((n : Int) % (256 : Int))] 5)) 77 9 5 ⟨w.heap.size, 0, none⟩ 1 [UInt8.ofNat n] Tryz.underlying77 Tryz.underlying5 Tryz.underlying9 (oneByte w _ _ hX)
  simp only [List.length_cons, List.length_nil, Nat.zero_add] at hconv
  clear hX
  go_enter Tryz.func108, Tryz.ntmps108
  go_wp2
  go_ret
  exact ⟨rfl, (Below.refl _ _).alloc (Nat.le_refl _) _⟩
end Go.Proofs.YtlhmmplkdjibkaaGreatDoor
/- The document's rows: what a thing is laid as; the reference's num, head, Laid. -/
namespace Go.Proofs.YtlhmmplkdjibkaaGreatDoor
open Go.RowKit

set_option maxRecDepth 100000 in
set_option maxHeartbeats 2000000 in
theorem pnum_any (n : Nat) (w : World) (hn : n < 18446744073709551616) :
    Calls Tryz.prog 53 #[.int .u64 (n : Int)] w fun e w' => e = .returned (.string ⟨(numP n).toArray⟩) ∧ Below w.heap.size w w' := by
  have hcat : ∀ (c : UInt8) (k : Nat) (w : World), k ≤ 8 → (Op.stringOp .add ⟨#[c]⟩ ⟨(be n k).toArray⟩).run Tryz.prog w = .ok (.string ⟨(c :: be n k).toArray⟩) w := fun c k w hk => run_cat [c] (be n k) (by rw [be_length]; simp; omega) w
  have HB := Lib.hid (fun (k : Nat) (w : World) (hk : k ≤ 8) => pbytes_any n k w hn hk)
  have HO := Lib.hid (fun (w : World) => pone_any n w)
  by_cases h0 : n < 128
  · have e : numP n = [UInt8.ofNat n] := by rw [numP, if_pos h0]
    have HE := Lib.hid e
    have i0 : (n : Int) < 128 := by omega
    clear e hcat
    go_enter Tryz.func53, Tryz.ntmps53
    go_wp2_with (go_at_call 108; refine (HO.out _).mono ?_; rintro e w1 ⟨rfl, hb⟩)
    go_ret
    exact ⟨by rw [HE.out]; rfl, hb⟩
  · have i0 : ¬ (n : Int) < 128 := by omega
    by_cases h1 : n < 256
    · have HE := Lib.hid (show numP n = 204 :: be n 1 by rw [numP, if_neg h0, if_pos h1])
      have i1 : (n : Int) < 256 := by omega
      have hc := fun w => hcat 204 1 w (by omega)
      clear hcat
      go_enter Tryz.func53, Tryz.ntmps53
      go_wp2_with (go_at_call 109; refine (HB.out 1 _ (by omega)).mono ?_; rintro e w1 ⟨rfl, hb⟩)
      go_ret
      exact ⟨by rw [HE.out]; rfl, hb⟩
    · have i1 : ¬ (n : Int) < 256 := by omega
      by_cases h2 : n < 65536
      · have HE := Lib.hid (show numP n = 205 :: be n 2 by rw [numP, if_neg h0, if_neg h1, if_pos h2])
        have i2 : (n : Int) < 65536 := by omega
        have hc := fun w => hcat 205 2 w (by omega)
        clear hcat
        go_enter Tryz.func53, Tryz.ntmps53
        go_wp2_with (go_at_call 109; refine (HB.out 2 _ (by omega)).mono ?_; rintro e w1 ⟨rfl, hb⟩)
        go_ret
        exact ⟨by rw [HE.out]; rfl, hb⟩
      · have i2 : ¬ (n : Int) < 65536 := by omega
        by_cases h3 : n < 4294967296
        · have HE := Lib.hid (show numP n = 206 :: be n 4 by rw [numP, if_neg h0, if_neg h1, if_neg h2, if_pos h3])
          have i3 : (n : Int) < 4294967296 := by omega
          have hc := fun w => hcat 206 4 w (by omega)
          clear hcat
          go_enter Tryz.func53, Tryz.ntmps53
          go_wp2_with (go_at_call 109; refine (HB.out 4 _ (by omega)).mono ?_; rintro e w1 ⟨rfl, hb⟩)
          go_ret
          exact ⟨by rw [HE.out]; rfl, hb⟩
        · have HE := Lib.hid (show numP n = 207 :: be n 8 by rw [numP, if_neg h0, if_neg h1, if_neg h2, if_neg h3])
          have i3 : ¬ (n : Int) < 4294967296 := by omega
          have hc := fun w => hcat 207 8 w (by omega)
          clear hcat
          go_enter Tryz.func53, Tryz.ntmps53
          go_wp2_with (go_at_call 109; refine (HB.out 8 _ (by omega)).mono ?_; rintro e w1 ⟨rfl, hb⟩)
          go_ret
          exact ⟨by rw [HE.out]; rfl, hb⟩

set_option maxRecDepth 100000 in
set_option maxHeartbeats 4000000 in
theorem phead_any (s : Int) (n : Nat) (w : World) (hn : n < 65536) :
    Calls Tryz.prog 54 #[.int .i64 s, .int .u64 (n : Int)] w fun e w' => e = .returned (.string ⟨(headP s n).toArray⟩) ∧ Below w.heap.size w w' := by
  have hcat : ∀ (c : UInt8) (k : Nat) (w : World), k ≤ 8 → (Op.stringOp .add ⟨#[c]⟩ ⟨(be n k).toArray⟩).run Tryz.prog w = .ok (.string ⟨(c :: be n k).toArray⟩) w := fun c k w hk => run_cat [c] (be n k) (by rw [be_length]; simp; omega) w
  have HB := Lib.hid (fun (k : Nat) (w : World) (hk : k ≤ 8) => pbytes_any n k w (by omega) hk)
  have HO := Lib.hid (fun (c : Nat) (w : World) => pone_any (c + n) w)
  have hw : ∀ c : Nat, c < 65536 → IntKind.u64.wrap ((c : Int) + (n : Int)) = ((c + n : Nat) : Int) := fun c hc => by simp only [IntKind.wrap, IntKind.bits, IntKind.signed]; simp; omega
  by_cases s1 : s = 1
  · by_cases h0 : n < 256
    · have HE := Lib.hid (show headP s n = 196 :: be n 1 by rw [headP, if_pos s1, if_pos h0])
      have i0 : ((n : Int) < 256) := by omega
      have hc := fun w => hcat 196 1 w (by omega)
      clear hcat hw
      subst s1
      go_enter Tryz.func54, Tryz.ntmps54
      go_wp2_with (go_at_call 109; refine (HB.out 1 _ (by omega)).mono ?_; rintro e w1 ⟨rfl, hb⟩)
      go_ret
      exact ⟨by rw [HE.out]; rfl, hb⟩
    · have HE := Lib.hid (show headP s n = 197 :: be n 2 by rw [headP, if_pos s1, if_neg h0])
      have i0 : ¬ ((n : Int) < 256) := by omega
      have hc := fun w => hcat 197 2 w (by omega)
      clear hcat hw
      subst s1
      go_enter Tryz.func54, Tryz.ntmps54
      go_wp2_with (go_at_call 109; refine (HB.out 2 _ (by omega)).mono ?_; rintro e w1 ⟨rfl, hb⟩)
      go_ret
      exact ⟨by rw [HE.out]; rfl, hb⟩
  · by_cases s2 : s = 2
    · by_cases h0 : n < 32
      · have HE := Lib.hid (show headP s n = [UInt8.ofNat (160 + n)] by rw [headP, if_neg s1, if_pos s2, if_pos h0])
        have i0 : ((n : Int) < 32) := by omega
        have hw2 := hw 160 (by omega)
        have HO2 := Lib.hid (HO.out 160)
        obtain ⟨m, hm⟩ : ∃ m, 160 + n = m := ⟨_, rfl⟩
        rw [hm] at hw2 HO2 HE
        simp only [Int.cast_ofNat_Int] at hw2
        clear hcat hw hm
        subst s2
        go_enter Tryz.func54, Tryz.ntmps54
        go_wp2_with (go_at_call 108; refine (HO2.out _).mono ?_; rintro e w1 ⟨rfl, hb⟩)
        go_ret
        exact ⟨by rw [HE.out]; rfl, hb⟩
      · by_cases h1 : n < 256
        · have HE := Lib.hid (show headP s n = 217 :: be n 1 by rw [headP, if_neg s1, if_pos s2, if_neg h0, if_pos h1])
          have i0 : ¬ ((n : Int) < 32) := by omega
          have i1 : ((n : Int) < 256) := by omega
          have hc := fun w => hcat 217 1 w (by omega)
          clear hcat hw
          subst s2
          go_enter Tryz.func54, Tryz.ntmps54
          go_wp2_with (go_at_call 109; refine (HB.out 1 _ (by omega)).mono ?_; rintro e w1 ⟨rfl, hb⟩)
          go_ret
          exact ⟨by rw [HE.out]; rfl, hb⟩
        · have HE := Lib.hid (show headP s n = 218 :: be n 2 by rw [headP, if_neg s1, if_pos s2, if_neg h0, if_neg h1])
          have i0 : ¬ ((n : Int) < 32) := by omega
          have i1 : ¬ ((n : Int) < 256) := by omega
          have hc := fun w => hcat 218 2 w (by omega)
          clear hcat hw
          subst s2
          go_enter Tryz.func54, Tryz.ntmps54
          go_wp2_with (go_at_call 109; refine (HB.out 2 _ (by omega)).mono ?_; rintro e w1 ⟨rfl, hb⟩)
          go_ret
          exact ⟨by rw [HE.out]; rfl, hb⟩
    · by_cases s3 : s = 3
      · by_cases h0 : n < 16
        · have HE := Lib.hid (show headP s n = [UInt8.ofNat (144 + n)] by rw [headP, if_neg s1, if_neg s2, if_pos s3, if_pos h0])
          have i0 : ((n : Int) < 16) := by omega
          have hw2 := hw 144 (by omega)
          have HO2 := Lib.hid (HO.out 144)
          obtain ⟨m, hm⟩ : ∃ m, 144 + n = m := ⟨_, rfl⟩
          rw [hm] at hw2 HO2 HE
          simp only [Int.cast_ofNat_Int] at hw2
          clear hcat hw hm
          subst s3
          go_enter Tryz.func54, Tryz.ntmps54
          go_wp2_with (go_at_call 108; refine (HO2.out _).mono ?_; rintro e w1 ⟨rfl, hb⟩)
          go_ret
          exact ⟨by rw [HE.out]; rfl, hb⟩
        · have HE := Lib.hid (show headP s n = 220 :: be n 2 by rw [headP, if_neg s1, if_neg s2, if_pos s3, if_neg h0])
          have i0 : ¬ ((n : Int) < 16) := by omega
          have hc := fun w => hcat 220 2 w (by omega)
          clear hcat hw
          subst s3
          go_enter Tryz.func54, Tryz.ntmps54
          go_wp2_with (go_at_call 109; refine (HB.out 2 _ (by omega)).mono ?_; rintro e w1 ⟨rfl, hb⟩)
          go_ret
          exact ⟨by rw [HE.out]; rfl, hb⟩
      · by_cases h0 : n < 16
        · have HE := Lib.hid (show headP s n = [UInt8.ofNat (128 + n)] by rw [headP, if_neg s1, if_neg s2, if_neg s3, if_pos h0])
          have i0 : ((n : Int) < 16) := by omega
          have hw2 := hw 128 (by omega)
          have HO2 := Lib.hid (HO.out 128)
          obtain ⟨m, hm⟩ : ∃ m, 128 + n = m := ⟨_, rfl⟩
          rw [hm] at hw2 HO2 HE
          simp only [Int.cast_ofNat_Int] at hw2
          clear hcat hw hm
          go_enter Tryz.func54, Tryz.ntmps54
          go_wp2_with (go_at_call 108; refine (HO2.out _).mono ?_; rintro e w1 ⟨rfl, hb⟩)
          go_ret
          exact ⟨by rw [HE.out]; rfl, hb⟩
        · have HE := Lib.hid (show headP s n = 222 :: be n 2 by rw [headP, if_neg s1, if_neg s2, if_neg s3, if_neg h0])
          have i0 : ¬ ((n : Int) < 16) := by omega
          have hc := fun w => hcat 222 2 w (by omega)
          clear hcat hw
          go_enter Tryz.func54, Tryz.ntmps54
          go_wp2_with (go_at_call 109; refine (HB.out 2 _ (by omega)).mono ?_; rintro e w1 ⟨rfl, hb⟩)
          go_ret
          exact ⟨by rw [HE.out]; rfl, hb⟩
end Go.Proofs.YtlhmmplkdjibkaaGreatDoor
/- What is laid, as the reference answers it; the text of a thing. -/
namespace Go.Proofs.YtlhmmplkdjibkaaGreatDoor
open Go.RowKit

/-- what a call lays, and the error -/
def laidP (s : Int) (n : Nat) (L : List UInt8) : List UInt8 × Int :=
  if s = 0 then (numP n, 0)
  else if s = 1 ∨ s = 2 then (if 65536 ≤ L.length then ([], 3) else (headP s L.length ++ L, 0))
  else if 9223372036854775808 ≤ n then ([], 2) else if 65536 ≤ n then ([], 3) else (headP s n, 0)

set_option maxRecDepth 100000 in
set_option maxHeartbeats 4000000 in
theorem pLaid_any (s : Int) (n : Nat) (L : List UInt8) (w : World) (hn : n < 18446744073709551616) (hL : L.length < 100000000) :
    Calls Tryz.prog 24 #[.int .i64 s, .int .u64 (n : Int), .string ⟨L.toArray⟩] w fun e w' => e = .returned (.tuple #[.string ⟨(laidP s n L).1.toArray⟩, .int .i64 (laidP s n L).2]) ∧ Below w.heap.size w w' := by
  by_cases s0 : s = 0
  · have HE := Lib.hid (show laidP s n L = (numP n, 0) by rw [laidP, if_pos s0])
    rw [HE.out]
    have HN := Lib.hid (fun w => pnum_any n w hn)
    subst s0
    go_enter Tryz.func24, Tryz.ntmps24
    go_wp2_with (go_at_call 53; refine (HN.out _).mono ?_; rintro e w1 ⟨rfl, hb⟩)
    refine bodyPost_ret (v := .tuple #[.string ⟨(numP n).toArray⟩, .int .i64 0]) (by simp [results, Tryz.results24, go_sem, *]) rfl ⟨rfl, hb⟩
  · by_cases s1 : s = 1 ∨ s = 2
    · by_cases hl : 65536 ≤ L.length
      · have HE := Lib.hid (show laidP s n L = ([], 3) by rw [laidP, if_neg s0, if_pos s1, if_pos hl])
        rw [HE.out]
        have l1 : (65536 : Int) ≤ (L.length : Int) := by omega
        rcases s1 with rfl | rfl
        all_goals
          go_enter Tryz.func24, Tryz.ntmps24
          go_wp2
          refine bodyPost_ret (v := .tuple #[.string ⟨#[]⟩, .int .i64 3]) (by simp [results, Tryz.results24, go_sem, *]) rfl ⟨rfl, Below.refl _ _⟩
      · have HE := Lib.hid (show laidP s n L = (headP s L.length ++ L, 0) by rw [laidP, if_neg s0, if_pos s1, if_neg hl])
        rw [HE.out]
        have l1 : ¬ (65536 : Int) ≤ (L.length : Int) := by omega
        have l2 : IntKind.u64.wrap (L.length : Int) = (L.length : Int) := by simp [IntKind.wrap, IntKind.bits, IntKind.signed]; omega
        have HH := Lib.hid (fun w => phead_any s L.length w (by omega))
        have hcat := run_cat (headP s L.length) L (by have := headP_len s L.length; omega)
        obtain ⟨H, hH⟩ : ∃ H, headP s L.length = H := ⟨_, rfl⟩
        rw [hH] at HH hcat ⊢
        clear hH
        rcases s1 with rfl | rfl
        all_goals
          go_enter Tryz.func24, Tryz.ntmps24
          go_wp2_with (go_at_call 54; refine (HH.out _).mono ?_; rintro e w1 ⟨rfl, hb⟩)
          refine bodyPost_ret (v := .tuple #[.string ⟨(H ++ L).toArray⟩, .int .i64 0]) (by simp [results, Tryz.results24, go_sem, *]) rfl ⟨rfl, hb⟩
    · have z0 : (s == 0) = false := beq_eq_false_iff_ne.2 s0
      have z1 : (s == 1) = false := beq_eq_false_iff_ne.2 (fun c => s1 (.inl c))
      have z2 : (s == 2) = false := beq_eq_false_iff_ne.2 (fun c => s1 (.inr c))
      by_cases hb : 9223372036854775808 ≤ n
      · have HE := Lib.hid (show laidP s n L = ([], 2) by rw [laidP, if_neg s0, if_neg s1, if_pos hb])
        rw [HE.out]
        have l1 : IntKind.i64.wrap (n : Int) = (n : Int) - 18446744073709551616 := by simp [IntKind.wrap, IntKind.bits, IntKind.signed]; omega
        have l2 : (n : Int) - 18446744073709551616 < 0 := by omega
        clear s0 s1 hb hn
        go_enter Tryz.func24, Tryz.ntmps24
        go_wp2
        refine bodyPost_ret (v := .tuple #[.string ⟨#[]⟩, .int .i64 2]) (by simp [results, Tryz.results24, go_sem, *]) rfl ⟨rfl, Below.refl _ _⟩
      · have l1 : IntKind.i64.wrap (n : Int) = (n : Int) := IntWalk.i64_in _ (by omega)
        have l2 : ¬ (n : Int) < 0 := by omega
        by_cases hl : 65536 ≤ n
        · have HE := Lib.hid (show laidP s n L = ([], 3) by rw [laidP, if_neg s0, if_neg s1, if_neg hb, if_pos hl])
          rw [HE.out]
          have l3 : (65536 : Int) ≤ (n : Int) := by omega
          clear s0 s1 hb hn hl
          go_enter Tryz.func24, Tryz.ntmps24
          go_wp2
          refine bodyPost_ret (v := .tuple #[.string ⟨#[]⟩, .int .i64 3]) (by simp [results, Tryz.results24, go_sem, *]) rfl ⟨rfl, Below.refl _ _⟩
        · have HE := Lib.hid (show laidP s n L = (headP s n, 0) by rw [laidP, if_neg s0, if_neg s1, if_neg hb, if_neg hl])
          rw [HE.out]
          have l3 : ¬ (65536 : Int) ≤ (n : Int) := by omega
          have HH := Lib.hid (fun w => phead_any s n w (by omega))
          clear s0 s1 hb hn hl
          go_enter Tryz.func24, Tryz.ntmps24
          go_wp2_with (go_at_call 54; refine (HH.out _).mono ?_; rintro e w1 ⟨rfl, hb⟩)
          refine bodyPost_ret (v := .tuple #[.string ⟨(headP s n).toArray⟩, .int .i64 0]) (by simp [results, Tryz.results24, go_sem, *]) rfl ⟨rfl, hb⟩
end Go.Proofs.YtlhmmplkdjibkaaGreatDoor
/- The program's table of rows; which row says a number of a sort. -/
namespace Go.Proofs.YtlhmmplkdjibkaaGreatDoor.Pk
open Go.RowKit


/-- the beginning of a list or a map of i things -/
def listP (s i : Int) : List UInt8 × Int := if i < 0 then ([], 2) else if 65536 ≤ i then ([], 3) else (headP s i.toNat, 0)
/-- a row: its sort, the last number that it says, its first byte, the bytes of the number behind it -/
structure RowP where
  s : Int
  last : Nat
  f : Nat
  size : Nat
def rowsL : List RowP := [⟨0, 127, 0, 0⟩, ⟨0, 255, 204, 1⟩, ⟨0, 65535, 205, 2⟩, ⟨0, 4294967295, 206, 4⟩, ⟨0, 18446744073709551615, 207, 8⟩, ⟨1, 255, 196, 1⟩, ⟨1, 65535, 197, 2⟩,
  ⟨2, 31, 160, 0⟩, ⟨2, 255, 217, 1⟩, ⟨2, 65535, 218, 2⟩, ⟨3, 15, 144, 0⟩, ⟨3, 65535, 220, 2⟩, ⟨4, 15, 128, 0⟩, ⟨4, 65535, 222, 2⟩]
def rowAt (i : Nat) : RowP := rowsL.getD i ⟨0, 0, 0, 0⟩
def rowV (r : RowP) : List Value := [.int .i64 r.s, .int .u64 (r.last : Int), .int .u8 (r.f : Int), .int .i64 (r.size : Int)]
/-- the package's table -/
structure Glob (w : World) : Prop where
  size : 1 < w.heap.size
  c : ∀ i j, i < 14 → j < 4 → w.cell? ⟨1, i * 4 + j, none⟩ = (rowV (rowAt i))[j]?
theorem Glob.below {B : Nat} {w w' : World} (h : Glob w) (hB : 1 < B) (hb : Below B w w') : Glob w' :=
  ⟨by have := hb.size; have := h.size; omega, fun i j hi hj => (hb.cell (p := ⟨1, i * 4 + j, none⟩) (by show 1 < B; omega)).trans (h.c i j hi hj)⟩
theorem Glob.next {w w' : World} (h : Glob w) (hb : Below w.heap.size w w') : Glob w' := h.below h.size hb
theorem Glob.cells {w : World} (h : Glob w) (i : Nat) (hi : i < 14) : w.cell? ⟨1, i * 4, none⟩ = some (.int .i64 (rowAt i).s) ∧ w.cell? ⟨1, i * 4 + 1, none⟩ = some (.int .u64 ((rowAt i).last : Int)) ∧
    w.cell? ⟨1, i * 4 + 2, none⟩ = some (.int .u8 ((rowAt i).f : Int)) ∧ w.cell? ⟨1, i * 4 + 3, none⟩ = some (.int .i64 ((rowAt i).size : Int)) :=
  ⟨h.c i 0 hi (by decide), h.c i 1 hi (by decide), h.c i 2 hi (by decide), h.c i 3 hi (by decide)⟩

/-- the row says it -/
def saysB (r : RowP) (s : Int) (n : Nat) : Bool := r.s == s && decide (n ≤ r.last)

set_option maxRecDepth 100000 in
set_option maxHeartbeats 1000000 in
theorem says_any (p0 p1 p2 : Nat) (i : Nat) (s : Int) (n : Nat) (w : World) (hi : i < 14) (hg : Glob w)
    (h0 : w.cell? ⟨p0, 0, none⟩ = some (.int .i64 (i : Int))) (h1 : w.cell? ⟨p1, 0, none⟩ = some (.int .i64 s)) (h2 : w.cell? ⟨p2, 0, none⟩ = some (.int .u64 (n : Int))) :
    Calls Tryz.prog 185 #[.pointer (some ⟨p0, 0, none⟩), .pointer (some ⟨p1, 0, none⟩), .pointer (some ⟨p2, 0, none⟩)] w fun e w' => e = .returned (.bool (saysB (rowAt i) s n)) ∧ Below w.heap.size w w' := by
  obtain ⟨g0, g1, _, _⟩ := hg.cells i hi
  have hsz := hg.size
  unfold saysB
  generalize rowAt i = r at *
  obtain ⟨rs, rl, rf, rz⟩ := r
  have i0 : (0 : Int) ≤ (i : Int) := by omega
  have i1 : (i : Int) < 14 := by omega
  clear hi hg
  by_cases hs : rs = s
  · have e1 : (rs == s) = true := by simpa using hs
    have hd : ∃ b, decide ((n : Int) ≤ (rl : Int)) = b := ⟨_, rfl⟩
    have hn : decide (n ≤ rl) = decide ((n : Int) ≤ (rl : Int)) := by rw [decide_eq_decide]; omega
    obtain ⟨b, hb⟩ := hd
    show Calls _ _ _ _ fun e w' => e = .returned (.bool ((rs == s) && decide (n ≤ rl))) ∧ _
    rw [hn, e1]
    go_enter Tryz.func185, Tryz.ntmps185
    go_wp2
    go_quiet (fail)
    have hq : Below w.heap.size w (w.drewN nq) := by0q w nq
    go_wp2
    go_ret
    exact ⟨rfl, hq⟩
  · have e1 : (rs == s) = false := by simpa using hs
    show Calls _ _ _ _ fun e w' => e = .returned (.bool ((rs == s) && decide (n ≤ rl))) ∧ _
    rw [e1]
    go_enter Tryz.func185, Tryz.ntmps185
    go_wp2
    go_quiet (fail)
    have hq : Below w.heap.size w (w.drewN nq) := by0q w nq
    go_wp2
    go_ret
    exact ⟨rfl, hq⟩
end Go.Proofs.YtlhmmplkdjibkaaGreatDoor.Pk
