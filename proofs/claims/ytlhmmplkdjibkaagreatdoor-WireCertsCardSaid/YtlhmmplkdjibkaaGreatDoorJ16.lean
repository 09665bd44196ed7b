/- strings.Repeat, by the shelf's contract; the law's full. -/
import Derived.Test.YtlhmmplkdjibkaaGreatDoorJ1
import Derived.Test.YtlhmmplkdjibkaaGreatDoorJ15
namespace Go.Proofs.YtlhmmplkdjibkaaGreatDoor
open Go.RowKit

theorem repeatL_one (c : UInt8) (k : Nat) : Lib.repeatL [c] k = List.replicate k c := by
  induction k with
  | zero => rfl
  | succ n ih => rw [List.replicate_succ, ← ih]; rfl
theorem repeat_any (c : UInt8) (k : Nat) (w : World) (hk : k ≤ 1000) : Calls Tryz.prog 79 #[.string ⟨#[c]⟩, .int .i64 (k : Int)] w fun e w' => e = .returned (.string ⟨(List.replicate k c).toArray⟩) ∧ Below w.heap.size w w' := by
  refine (Tryz.strings_Repeat ⟨#[c]⟩ k w (by omega) (by show 1 * k ≤ _; omega)).mono ?_
  rintro e w' ⟨rfl, hb⟩
  refine ⟨?_, hb⟩
  have e1 : ((⟨#[c]⟩ : ByteArray)).data.toList = [c] := rfl
  rw [e1, repeatL_one]
theorem full_any (c : UInt8) (w : World) : Calls Tryz.prog 36 #[.string ⟨#[c]⟩] w fun e w' => e = .returned (.string ⟨(List.replicate 32 c).toArray⟩) ∧ Below w.heap.size w w' := by
  have HR := Lib.hid (repeat_any c 32 w (by decide))
  go_enter Tryz.func36, Tryz.ntmps36
  go_wp2_with fail
  refine HR.out.mono ?_
  rintro e w1 ⟨rfl, hb⟩
  go_wp2
  go_ret
  exact ⟨rfl, hb⟩
end Go.Proofs.YtlhmmplkdjibkaaGreatDoor
/- Things' values: what may be laid comes back; what is read was laid so. -/
namespace Go.Proofs.YtlhmmplkdjibkaaGreatDoor
open Go.RowKit

theorem whole_back {α : Type} (C : Codec α) {S : (List UInt8)} {x : α} (h : wholeG C.get S = .ok x) : C.ok x ∧ S = C.put x := by
  unfold wholeG at h
  cases hg : C.get S 0 with
  | error f => rw [hg] at h; cases h
  | ok p =>
    obtain ⟨y, k⟩ := p
    rw [hg] at h
    simp only at h
    by_cases hk : k < S.length
    · rw [if_pos hk] at h; cases h
    · rw [if_neg hk] at h
      cases h
      obtain ⟨h1, h2, R, h3⟩ := C.back _ _ _ _ hg
      have hl := congrArg List.length h3
      rw [List.length_append] at hl
      obtain rfl : R = [] := List.eq_nil_of_length_eq_zero (by omega)
      rw [List.append_nil] at h3
      exact ⟨h1, h3⟩

theorem bytesF_some {ρ : Type} {p : ρ} {f : Fld ρ} {v : f.β} (h : f.view p = some v) : bytesF p f = f.C.put v := by
  unfold bytesF
  rw [h]
theorem bytesF_none {ρ : Type} {p : ρ} {f : Fld ρ} (h : f.view p = none) : bytesF p f = [] := by
  unfold bytesF
  rw [h]
theorem bytes_num {ρ : Type} (p : ρ) (key : UInt8) (of : ρ → Nat) (set : ρ → Nat → ρ) : bytesF p (numFld key of set) = numZ (of p) := by
  unfold numZ
  by_cases h : of p = 0
  · rw [if_pos h]; exact bytesF_none (if_pos h)
  · rw [if_neg h]; exact bytesF_some (f := numFld key of set) (if_neg h)
theorem bytes_dig {ρ : Type} (p : ρ) (key : UInt8) (of : ρ → (List UInt8)) (set : ρ → (List UInt8) → ρ) (h : of p ≠ []) : bytesF p (digFld key of set) = binP (of p) :=
  bytesF_some (f := digFld key of set) (if_neg h)
theorem bytes_digs {ρ : Type} (p : ρ) (key : UInt8) (m : Nat) (hm : m ≤ 10240) (of : ρ → List (List UInt8)) (set : ρ → List (List UInt8) → ρ) : bytesF p (listFld key m hm digC of set) = digsP (of p) := by
  unfold digsP
  by_cases h : of p = []
  · rw [if_pos h]; exact bytesF_none (show lst (of p) = none by rw [h]; rfl)
  · rw [if_neg h]; exact bytesF_some (f := listFld key m hm digC of set) (list_seen h)
theorem bytes_yes {ρ : Type} (p : ρ) (key : UInt8) (of : ρ → Bool) (set : ρ → Bool → ρ) : bytesF p (yesFld key of set) = if of p then numZ 1 else [] := by
  by_cases h : of p = true
  · rw [if_pos h]; exact bytesF_some (f := yesFld key of set) (v := true) (if_pos h)
  · rw [if_neg h]; exact bytesF_none (if_neg h)
theorem mapP_nil (fs : List (UInt8 × (List UInt8))) (h : prs fs = []) : mapP fs = [128] := by
  unfold mapP prsB
  rw [h]
  rfl
theorem mapP_ne2 (fs : List (UInt8 × (List UInt8))) (h : prs fs ≠ []) : mapP fs ≠ [128] := by
  intro e
  have hl := congrArg List.length e
  unfold mapP prsB at hl
  have h1 : 0 < (headP 4 (prs fs).length).length := List.length_pos_iff.2 (headP_ne _ _)
  cases hp : prs fs with
  | nil => exact h hp
  | cons f l =>
    rw [hp] at hl h1
    rw [List.length_append, List.flatMap_cons] at hl
    simp only [List.cons_append, List.length_cons, List.length_nil] at hl
    omega
theorem numZ_ne {n : Nat} : numZ n = [] ↔ n = 0 := by
  unfold numZ
  by_cases h : n = 0
  · simp [h]
  · simp [h, numP_ne]
theorem digsP_ne {l : List (List UInt8)} : digsP l = [] ↔ l = [] := by
  unfold digsP
  by_cases h : l = []
  · simp [h]
  · simp [h, headP_ne]
theorem sig_small (g : SigR) : smallP (mapP (sigF g)) = if sigZ g then [] else mapP (sigF g) := by
  unfold smallP
  have hz : prs (sigF g) = [] ↔ sigZ g = true := by
    unfold prs sigF sigZ
    simp only [List.filter_eq_nil_iff, List.mem_cons, List.not_mem_nil, or_false, forall_eq_or_imp, forall_eq, Bool.not_eq_true, Bool.not_eq_false', List.isEmpty_iff, numZ_ne, digsP_ne, Bool.and_eq_true, beq_iff_eq]
    exact ⟨fun ⟨a, b, c⟩ => ⟨⟨a, b⟩, c⟩, fun ⟨⟨a, b⟩, c⟩ => ⟨a, b, c⟩⟩
  by_cases h : sigZ g = true
  · rw [if_pos (mapP_nil _ (hz.2 h)), if_pos h]
  · rw [if_neg (mapP_ne2 _ (fun e => h (hz.1 e))), if_neg h]

theorem okV_num {ρ : Type} {p : ρ} {key : UInt8} {of : ρ → Nat} {set : ρ → Nat → ρ} : (∀ v, (numFld key of set).view p = some v → (numFld key of set).C.ok v) ↔ of p < 18446744073709551616 := by
  show (∀ v : Nat, (if of p = 0 then none else some (of p)) = some v → v ≠ 0 ∧ v < 18446744073709551616) ↔ _
  by_cases h : of p = 0
  · simp [h]
  · simp [h]
theorem okV_dig {ρ : Type} {p : ρ} {key : UInt8} {of : ρ → (List UInt8)} {set : ρ → (List UInt8) → ρ} : (∀ v, (digFld key of set).view p = some v → (digFld key of set).C.ok v) ↔ (of p ≠ [] → digB (of p) = true) := by
  show (∀ v : (List UInt8), (if of p = [] then none else some (of p)) = some v → digB v = true) ↔ _
  by_cases h : of p = []
  · simp [h]
  · simp [h]
theorem mayB_iff (l : List (List UInt8)) (n : Nat) : mayB l n = true ↔ l.length ≤ n ∧ ∀ x ∈ l, digB x = true := by
  unfold mayB
  simp only [Bool.and_eq_true, List.all_eq_true, decide_eq_true_eq]
  exact And.comm
theorem okV_digs {ρ : Type} {p : ρ} {key : UInt8} {m : Nat} {hm : m ≤ 10240} {of : ρ → List (List UInt8)} {set : ρ → List (List UInt8) → ρ} : (∀ v, (listFld key m hm digC of set).view p = some v → (listFld key m hm digC of set).C.ok v) ↔ mayB (of p) m = true := by
  show (∀ v : List (List UInt8), lst (of p) = some v → v ≠ [] ∧ v.length ≤ m ∧ ∀ x ∈ v, digB x = true) ↔ _
  rw [mayB_iff]
  cases h : of p with
  | nil => simp [lst]
  | cons a l => simp only [lst, Option.some.injEq, forall_eq']; exact ⟨fun h => h.2, fun h => ⟨by simp, h⟩⟩

/-! a Part, a Msg, a Header, a Sig, a Slot -/
theorem part_okV (p : PartR) : okV partFs p ↔ PartIn p ∧ (p.root ≠ [] → digB p.root = true) := by
  unfold okV partFs
  simp only [List.mem_cons, List.not_mem_nil, or_false, forall_eq_or_imp, forall_eq, okV_num, okV_dig]
  exact ⟨fun ⟨a, b, c, d, e⟩ => ⟨⟨e, a, c, b⟩, d⟩, fun ⟨⟨e, a, c, b⟩, d⟩ => ⟨a, b, c, d, e⟩⟩
theorem part_ok (p : PartR) : partC.ok p ↔ PartIn p ∧ digB p.root = true := by
  show (okV partFs p ∧ (!p.root.isEmpty) = true) ↔ _
  rw [part_okV]
  constructor
  · rintro ⟨⟨a, b⟩, c⟩
    exact ⟨a, b (by simpa using c)⟩
  · rintro ⟨a, b⟩
    exact ⟨⟨a, fun _ => b⟩, by simpa using dig_ne b⟩
theorem part_put (p : PartR) (h : digB p.root = true) : partC.put p = mapP (partF p) := by
  show mapP (prL partFs p) = _
  simp only [prL, partFs, List.map_cons, List.map_nil, bytes_num, bytes_dig p _ (fun p : PartR => p.root) _ (dig_ne h)]
  rfl
theorem sig_ok (g : SigR) : sigC.ok g ↔ g.index < 18446744073709551616 ∧ maySigB g = true := by
  show (okV sigFs g ∧ (true = true)) ↔ _
  unfold okV sigFs maySigB
  simp only [List.mem_cons, List.not_mem_nil, or_false, forall_eq_or_imp, forall_eq, okV_num, okV_digs, Bool.and_eq_true, and_true]
theorem sig_put (g : SigR) : sigC.put g = mapP (sigF g) := by
  show mapP (prL sigFs g) = _
  simp only [prL, sigFs, List.map_cons, List.map_nil, bytes_num, bytes_digs]
  rfl
theorem slot_ok (x : SlotR) : slotC.ok x ↔ x.l < 18446744073709551616 ∧ x.sig.index < 18446744073709551616 ∧ maySigB x.sig = true := by
  show (okV slotFs x ∧ (true = true)) ↔ _
  have h1 : (∀ v : SigR, (if sigZ x.sig then none else some x.sig) = some v → sigC.ok v ∧ sigZ v = false) ↔ x.sig.index < 18446744073709551616 ∧ maySigB x.sig = true := by
    rw [← sig_ok]
    cases hz : sigZ x.sig with
    | true =>
      have hs : sigC.ok x.sig := by
        obtain ⟨_, _, i, ws, ps⟩ := x
        rw [sig_ok]
        cases ws <;> cases ps <;> simp_all [sigZ, maySigB, mayB]
      simp [hs]
    | false => simp [hz]
  have h3 : ∀ v : Bool, (if x.signed then some true else none) = some v → v = true := by intro v; cases x.signed <;> simp
  unfold okV slotFs
  simp only [List.mem_cons, List.not_mem_nil, or_false, forall_eq_or_imp, forall_eq, okV_num, and_true]
  exact ⟨fun ⟨a, b, _⟩ => ⟨b, h1.1 a⟩, fun ⟨b, a⟩ => ⟨h1.2 a, b, h3⟩⟩
theorem slot_put (x : SlotR) : slotC.put x = mapP (slotF x) := by
  show mapP (prL slotFs x) = _
  have h1 : bytesF x (nzFld 103 sigC sigZ (·.sig) (fun p v => { p with sig := v })) = smallP (mapP (sigF x.sig)) := by
    rw [sig_small]
    by_cases h : sigZ x.sig = true
    · rw [if_pos h]; exact bytesF_none (if_pos h)
    · rw [if_neg h]
      exact (bytesF_some (f := nzFld 103 sigC sigZ (fun x : SlotR => x.sig) (fun p v => { p with sig := v })) (if_neg h)).trans (sig_put _)
  simp only [prL, slotFs, List.map_cons, List.map_nil, bytes_num, bytes_yes, h1]
  rfl

/-! what is laid comes back; what was read is laid again -/
/-! how long they are -/
theorem layOr_len {b : Bool} {s : (List UInt8)} {n : Nat} (h : b = true → s.length ≤ n) : (layOr b s).1.length ≤ n := by
  unfold layOr
  cases b
  · exact Nat.zero_le _
  · exact h rfl
end Go.Proofs.YtlhmmplkdjibkaaGreatDoor
/- ReadPart, ReadMsg, ReadHeader of the program. -/
namespace Go.Proofs.YtlhmmplkdjibkaaGreatDoor
open Go.RowKit

theorem AnsPart.open {S : (List UInt8)} {w1 w2 : World} {e : Ending} (h : AnsPart S w1 e w2) : Below w1.heap.size w1 w2 ∧ ∃ q v, e = .returned (.tuple #[partV q, v]) ∧ ∀ w w'' : World, w.heap.size ≤ w1.heap.size → (∀ k, w1.heap.size ≤ k → w''.heap[k]? = w2.heap[k]?) → Below w.heap.size w w'' → AnsPart S w (.returned (.tuple #[partV q, v])) w'' := by
  rw [AnsPart] at h
  rcases hr : wholeG partC.get S with ⟨c, b⟩ | q
  · rw [hr] at h
    obtain ⟨hc, ⟨v, rfl, hv⟩, hb⟩ := h
    refine ⟨hb, _, v, rfl, fun w w'' hl hk hb2 => ?_⟩
    rw [AnsPart, hr]
    refine ⟨hc, ⟨v, rfl, ?_⟩, hb2⟩
    unfold ErrV at *
    rw [if_neg (by omega)] at *
    obtain ⟨g, h0, h1, h2, h3⟩ := hv
    have hg : ∀ o, w''.cell? ⟨g, o, none⟩ = w2.cell? ⟨g, o, none⟩ := fun o => World.cell?_of_block (a := ⟨g, o, none⟩) (hk g h0)
    exact ⟨g, by omega, h1, (hg 0).trans h2, (hg 1).trans h3⟩
  · rw [hr] at h
    obtain ⟨rfl, hb⟩ := h
    refine ⟨hb, _, _, rfl, fun w w'' hl hk hb2 => ?_⟩
    rw [AnsPart, hr]
    exact ⟨rfl, hb2⟩
set_option maxRecDepth 100000 in
set_option maxHeartbeats 1000000 in
theorem wreadPart_any (S : (List UInt8)) (w : World) (hG : GlobW w) (hS : S.length ≤ 1000000) (hgl : 4 ≤ w.heap.size) : Calls Tryz.prog 41 #[.string ⟨S.toArray⟩] w (AnsPart S w) := by
  have hb0 : Below w.heap.size w (w.alloc (.cells #[.string ⟨#[]⟩, .int .u64 0, .int .u64 0, .int .u64 0, .int .u64 0] 55)) := by0 w _
  have HN := Lib.hid (heap_alloc_new w (.cells #[.string ⟨#[]⟩, .int .u64 0, .int .u64 0, .int .u64 0, .int .u64 0] 55))
  have HZ := Lib.hid (show (w.alloc (.cells #[.string ⟨#[]⟩, .int .u64 0, .int .u64 0, .int .u64 0, .int .u64 0] 55)).heap.size = w.heap.size + 1 by simp)
  have HC := Lib.hid (freadPart_any S _ (hG.next hb0) hS (by have := hb0.size; omega))
  have HB := Lib.hid hb0
  clear hG hS hgl hb0
  go_enter Tryz.func41, Tryz.ntmps41
  go_upto_region 1 with fail
  change Code.wp _ _ _ _ (w.alloc (.cells #[.string ⟨#[]⟩, .int .u64 0, .int .u64 0, .int .u64 0, .int .u64 0] 55))
  generalize w.alloc (.cells #[.string ⟨#[]⟩, .int .u64 0, .int .u64 0, .int .u64 0, .int .u64 0] 55) = w1 at *
  go_wp2_with (go_at_call 84; refine HC.out.mono ?_; intro e w2 h; obtain ⟨hb2, q, v, rfl, hA⟩ := h.open; have hX6 := (hb2.block w.heap.size (lit_lt HN.out)).trans HN.out; have p0 := (lit_cell hX6 0).trans rfl; have q0 := lit_free hX6 0; have p1 := (lit_cell hX6 1).trans rfl; have q1 := lit_free hX6 1; have p2 := (lit_cell hX6 2).trans rfl; have q2 := lit_free hX6 2; have p3 := (lit_cell hX6 3).trans rfl; have q3 := lit_free hX6 3; have p4 := (lit_cell hX6 4).trans rfl; have q4 := lit_free hX6 4)
  have hz := HZ.out
  have hx7 := lit_set (k := 4) (.int .u64 (q.keys : Int)) (lit_set (k := 3) (.int .u64 (q.life : Int)) (lit_set (k := 2) (.int .u64 (q.first : Int)) (lit_set (k := 1) (.int .u64 (q.weight : Int)) (lit_set (k := 0) (.string ⟨q.root.toArray⟩) (hX6)))))
  have ho7 : Only w.heap.size w2 ((((((w2).setCell ⟨w.heap.size, 0, none⟩ (.string ⟨q.root.toArray⟩)).setCell ⟨w.heap.size, 1, none⟩ (.int .u64 (q.weight : Int))).setCell ⟨w.heap.size, 2, none⟩ (.int .u64 (q.first : Int))).setCell ⟨w.heap.size, 3, none⟩ (.int .u64 (q.life : Int))).setCell ⟨w.heap.size, 4, none⟩ (.int .u64 (q.keys : Int))) := ((((((Only.refl w.heap.size w2).trans (Only.set w.heap.size 0 (.string ⟨q.root.toArray⟩) (w2))).trans (Only.set w.heap.size 1 (.int .u64 (q.weight : Int)) ((w2).setCell ⟨w.heap.size, 0, none⟩ (.string ⟨q.root.toArray⟩)))).trans (Only.set w.heap.size 2 (.int .u64 (q.first : Int)) (((w2).setCell ⟨w.heap.size, 0, none⟩ (.string ⟨q.root.toArray⟩)).setCell ⟨w.heap.size, 1, none⟩ (.int .u64 (q.weight : Int))))).trans (Only.set w.heap.size 3 (.int .u64 (q.life : Int)) ((((w2).setCell ⟨w.heap.size, 0, none⟩ (.string ⟨q.root.toArray⟩)).setCell ⟨w.heap.size, 1, none⟩ (.int .u64 (q.weight : Int))).setCell ⟨w.heap.size, 2, none⟩ (.int .u64 (q.first : Int))))).trans (Only.set w.heap.size 4 (.int .u64 (q.keys : Int)) (((((w2).setCell ⟨w.heap.size, 0, none⟩ (.string ⟨q.root.toArray⟩)).setCell ⟨w.heap.size, 1, none⟩ (.int .u64 (q.weight : Int))).setCell ⟨w.heap.size, 2, none⟩ (.int .u64 (q.first : Int))).setCell ⟨w.heap.size, 3, none⟩ (.int .u64 (q.life : Int)))))
  have hd7 : Below w.heap.size w ((((((w2).setCell ⟨w.heap.size, 0, none⟩ (.string ⟨q.root.toArray⟩)).setCell ⟨w.heap.size, 1, none⟩ (.int .u64 (q.weight : Int))).setCell ⟨w.heap.size, 2, none⟩ (.int .u64 (q.first : Int))).setCell ⟨w.heap.size, 3, none⟩ (.int .u64 (q.life : Int))).setCell ⟨w.heap.size, 4, none⟩ (.int .u64 (q.keys : Int))) := below_duo (HB.out.trans (hb2.mono (by omega))) (Duo.only (x := w.heap.size) ho7) (Nat.le_refl _) (Nat.le_refl _)
  have hsz : ((((((w2).setCell ⟨w.heap.size, 0, none⟩ (.string ⟨q.root.toArray⟩)).setCell ⟨w.heap.size, 1, none⟩ (.int .u64 (q.weight : Int))).setCell ⟨w.heap.size, 2, none⟩ (.int .u64 (q.first : Int))).setCell ⟨w.heap.size, 3, none⟩ (.int .u64 (q.life : Int))).setCell ⟨w.heap.size, 4, none⟩ (.int .u64 (q.keys : Int))).heap.size = w2.heap.size := by simp
  generalize (((((w2).setCell ⟨w.heap.size, 0, none⟩ (.string ⟨q.root.toArray⟩)).setCell ⟨w.heap.size, 1, none⟩ (.int .u64 (q.weight : Int))).setCell ⟨w.heap.size, 2, none⟩ (.int .u64 (q.first : Int))).setCell ⟨w.heap.size, 3, none⟩ (.int .u64 (q.life : Int))).setCell ⟨w.heap.size, 4, none⟩ (.int .u64 (q.keys : Int)) = w7 at *
  have z0 := (lit_cell hx7 0).trans rfl; have z1 := (lit_cell hx7 1).trans rfl; have z2 := (lit_cell hx7 2).trans rfl; have z3 := (lit_cell hx7 3).trans rfl; have z4 := (lit_cell hx7 4).trans rfl
  refine bodyPost_ret (v := .tuple #[partV q, v]) (by simp [results, Tryz.results41, go_sem, z0, z1, z2, z3, z4]) rfl (hA w w7 (by omega) (fun k hk => ?_) hd7)
  by_cases hl : k < w2.heap.size
  · exact ho7.block k hl (by omega)
  · rw [Array.getElem?_eq_none (xs := w7.heap) (by rw [hsz]; omega), Array.getElem?_eq_none (xs := w2.heap) (by omega)]

theorem AnsMsg.open {S : (List UInt8)} {w1 w2 : World} {e : Ending} (h : AnsMsg S w1 e w2) : Below w1.heap.size w1 w2 ∧ ∃ q v, e = .returned (.tuple #[msgV q, v]) ∧ ∀ w w'' : World, w.heap.size ≤ w1.heap.size → (∀ k, w1.heap.size ≤ k → w''.heap[k]? = w2.heap[k]?) → Below w.heap.size w w'' → AnsMsg S w (.returned (.tuple #[msgV q, v])) w'' := by
  rw [AnsMsg] at h
  rcases hr : wholeG msgC.get S with ⟨c, b⟩ | q
  · rw [hr] at h
    obtain ⟨hc, ⟨v, rfl, hv⟩, hb⟩ := h
    refine ⟨hb, _, v, rfl, fun w w'' hl hk hb2 => ?_⟩
    rw [AnsMsg, hr]
    refine ⟨hc, ⟨v, rfl, ?_⟩, hb2⟩
    unfold ErrV at *
    rw [if_neg (by omega)] at *
    obtain ⟨g, h0, h1, h2, h3⟩ := hv
    have hg : ∀ o, w''.cell? ⟨g, o, none⟩ = w2.cell? ⟨g, o, none⟩ := fun o => World.cell?_of_block (a := ⟨g, o, none⟩) (hk g h0)
    exact ⟨g, by omega, h1, (hg 0).trans h2, (hg 1).trans h3⟩
  · rw [hr] at h
    obtain ⟨rfl, hb⟩ := h
    refine ⟨hb, _, _, rfl, fun w w'' hl hk hb2 => ?_⟩
    rw [AnsMsg, hr]
    exact ⟨rfl, hb2⟩
theorem AnsHeader.open {S : (List UInt8)} {w1 w2 : World} {e : Ending} (h : AnsHeader S w1 e w2) : Below w1.heap.size w1 w2 ∧ ∃ q v, e = .returned (.tuple #[hdrV q, v]) ∧ ∀ w w'' : World, w.heap.size ≤ w1.heap.size → (∀ k, w1.heap.size ≤ k → w''.heap[k]? = w2.heap[k]?) → Below w.heap.size w w'' → AnsHeader S w (.returned (.tuple #[hdrV q, v])) w'' := by
  rw [AnsHeader] at h
  rcases hr : wholeG hdrC.get S with ⟨c, b⟩ | q
  · rw [hr] at h
    obtain ⟨hc, ⟨v, rfl, hv⟩, hb⟩ := h
    refine ⟨hb, _, v, rfl, fun w w'' hl hk hb2 => ?_⟩
    rw [AnsHeader, hr]
    refine ⟨hc, ⟨v, rfl, ?_⟩, hb2⟩
    unfold ErrV at *
    rw [if_neg (by omega)] at *
    obtain ⟨g, h0, h1, h2, h3⟩ := hv
    have hg : ∀ o, w''.cell? ⟨g, o, none⟩ = w2.cell? ⟨g, o, none⟩ := fun o => World.cell?_of_block (a := ⟨g, o, none⟩) (hk g h0)
    exact ⟨g, by omega, h1, (hg 0).trans h2, (hg 1).trans h3⟩
  · rw [hr] at h
    obtain ⟨rfl, hb⟩ := h
    refine ⟨hb, _, _, rfl, fun w w'' hl hk hb2 => ?_⟩
    rw [AnsHeader, hr]
    exact ⟨rfl, hb2⟩
end Go.Proofs.YtlhmmplkdjibkaaGreatDoor
/- Sig, Slot: what a reading leaves in memory. -/
namespace Go.Proofs.YtlhmmplkdjibkaaGreatDoor
open Go.RowKit

/-- a list that a reading laid: none, or a block of its own behind B -/
def OwnS (B rb t : Nat) (ao : Option Addr) (cp : Nat) (L : List (List UInt8)) (w : World) : Prop :=
  (L = [] ∧ ao = none ∧ cp = 0) ∨ ∃ b, L ≠ [] ∧ ao = some ⟨b, 0, none⟩ ∧ B ≤ b ∧ b ≠ rb ∧ b ≠ t ∧ b < w.heap.size ∧ ∀ i (h : i < L.length), w.cell? ⟨b, i, none⟩ = some (.string ⟨(L[i]).toArray⟩)
theorem OwnS.next {B rb t : Nat} {ao : Option Addr} {cp : Nat} {L : List (List UInt8)} {w w' : World} (h : OwnS B rb t ao cp L w) (hd : Duo rb t w w') : OwnS B rb t ao cp L w' := by
  rcases h with h | ⟨b, h0, h1, h2, h3, h4, h5, h6⟩
  · exact .inl h
  · exact .inr ⟨b, h0, h1, h2, h3, h4, Nat.lt_of_lt_of_le h5 hd.size, fun i hi => (World.cell?_of_block (a := ⟨b, i, none⟩) (hd.block b h5 h3 h4)).trans (h6 i hi)⟩
theorem OwnS.of_own {B rb t base : Nat} {v : Value} {L : List (List UInt8)} {xs : List Value} {w : World} (h : w.ownsRow base 9 1 v L.length xs) (hx : RelS L xs w) (he : Emp L v) (hB : B ≤ base) (hr : rb < base) (ht : t < base) : ∃ ao cp, v = .slice ao L.length cp ∧ OwnS B rb t ao cp L w := by
  cases hl : L with
  | nil => exact ⟨none, 0, he hl, .inl ⟨rfl, rfl, rfl⟩⟩
  | cons x l =>
    rw [← hl]
    have hne : L ≠ [] := by rw [hl]; simp
    obtain ⟨hn, h | ⟨g, cp, cur, hv, hb, hg, hc1, hc2, hc3, hc4⟩⟩ := h
    · exact absurd (List.eq_nil_of_length_eq_zero h.2) hne
    · refine ⟨_, cp, hv, .inr ⟨g, hne, rfl, by omega, by omega, by omega, lit_lt hg, fun i hi => ?_⟩⟩
      refine (lit_cell hg i).trans ?_
      have e : xs[i]? = some (.string ⟨(L[i]).toArray⟩) := by
        rw [show xs = strV L from hx, strV, List.getElem?_map, List.getElem?_eq_getElem hi]
        rfl
      rw [← hc4, Nat.mul_one, List.getElem?_take_of_lt hi, Array.getElem?_toList] at e
      exact e

/-- a Slot in the block t -/
structure RpSlot (B rb t : Nat) (p : SlotR) (w : World) : Prop where
  b : B ≤ w.heap.size + 1 ∧ rb < w.heap.size + 1
  h : ∃ wa wc pa pc, w.heap[t]? = some (.cells (slotQ ⟨p, wa, wc, pa, pc⟩).toArray 53 (0, 0)) ∧ OwnS B rb t wa wc p.sig.wots w ∧ OwnS B rb t pa pc p.sig.path w
theorem OwnS.nil {B rb t : Nat} {ao : Option Addr} {cp : Nat} {L : List (List UInt8)} {w : World} (h : OwnS B rb t ao cp L w) (e : L = []) : ao = none ∧ cp = 0 := by
  rcases h with ⟨_, h, k⟩ | ⟨b, h, _⟩
  · exact ⟨h, k⟩
  · exact absurd e h
theorem slot_path_l {B rb t : Nat} (p : SlotR) : ListL 9 1 RelS rb t 4 53 (fun s w => RpSlot B rb t { p with sig := s } w) (·.path) (fun s v => { s with path := v }) := by
  intro s w hp
  obtain ⟨⟨hB, hrb⟩, wa, wc, pa, pc, h1, h2, h3⟩ := hp
  refine ⟨_, pa, pc, h1, rfl, fun e => h3.nil e, fun l v xs w' hd ht ho hx => ?_⟩
  have hs := hd.size
  obtain ⟨ao, cp, rfl, hO⟩ := OwnS.of_own (B := B) (rb := rb) (t := t) ho hx.1 hx.2 hB hrb (by have := lit_lt h1; omega)
  exact ⟨⟨by omega, by omega⟩, wa, wc, ao, cp, ht, h2.next hd, hO⟩
theorem slot_wots_l {B rb t : Nat} (p : SlotR) : ListL 9 1 RelS rb t 3 53 (fun s w => RpSlot B rb t { p with sig := s } w) (·.wots) (fun s v => { s with wots := v }) := by
  intro s w hp
  obtain ⟨⟨hB, hrb⟩, wa, wc, pa, pc, h1, h2, h3⟩ := hp
  refine ⟨_, wa, wc, h1, rfl, fun e => h2.nil e, fun l v xs w' hd ht ho hx => ?_⟩
  have hs := hd.size
  obtain ⟨ao, cp, rfl, hO⟩ := OwnS.of_own (B := B) (rb := rb) (t := t) ho hx.1 hx.2 hB hrb (by have := lit_lt h1; omega)
  exact ⟨⟨by omega, by omega⟩, ao, cp, pa, pc, ht, hO, h3.next hd⟩
theorem slot_index_l {B rb t : Nat} (p : SlotR) : NumL rb t 2 53 (fun s w => RpSlot B rb t { p with sig := s } w) (·.index) (fun s v => { s with index := v }) := by
  intro s w hp
  obtain ⟨⟨hB, hrb⟩, wa, wc, pa, pc, h1, h2, h3⟩ := hp
  refine ⟨_, h1, rfl, fun v w' hd ht => ?_⟩
  have hs := hd.size
  exact ⟨⟨by omega, by omega⟩, wa, wc, pa, pc, ht, h2.next hd, h3.next hd⟩
theorem slot_l_l {B rb t : Nat} : NumL rb t 0 53 (RpSlot B rb t) (·.l) (fun p v => { p with l := v }) := by
  intro s w hp
  obtain ⟨⟨hB, hrb⟩, wa, wc, pa, pc, h1, h2, h3⟩ := hp
  refine ⟨_, h1, rfl, fun v w' hd ht => ?_⟩
  have hs := hd.size
  exact ⟨⟨by omega, by omega⟩, wa, wc, pa, pc, ht, h2.next hd, h3.next hd⟩
theorem slot_signed_l {B rb t : Nat} : YesL rb t 1 53 (RpSlot B rb t) (·.signed) (fun p v => { p with signed := v }) := by
  intro s w hp
  obtain ⟨⟨hB, hrb⟩, wa, wc, pa, pc, h1, h2, h3⟩ := hp
  refine ⟨_, h1, rfl, fun v w' hd ht => ?_⟩
  have hs := hd.size
  exact ⟨⟨by omega, by omega⟩, wa, wc, pa, pc, ht, h2.next hd, h3.next hd⟩
/-- a Sig's row reads, whatever the Slot around it -/
theorem sig_rd {w0 : World} {lo rb t fb B : Nat} {S : (List UInt8)} {fs : List FV} (hK : SigK lo t 2 fb fs w0) (hlo : rb < lo ∧ t < lo) (hrt : t ≠ rb) (hS : S.length ≤ 1000000) (hG : 4 ≤ rb ∧ 4 ≤ t) : ∃ xs : List (RW SigR), fs = xs.map (·.f) ∧ xs.length = 3 ∧ xs.map (·.g) = sigFs ∧ (∀ p : SlotR, ∀ x ∈ xs, ReadF w0 rb t S (fun s w => RpSlot B rb t { p with sig := s } w) x) ∧ ∀ s, (!xs.any fun x => x.f.needed && !(x.g.view s).isSome) = true := by
  obtain ⟨⟨k0, k1, k2, rfl, h0, h1, h2⟩, _, _⟩ := hK
  refine ⟨[⟨numFV 105 k0, numFld 105 (·.index) (fun p v => { p with index := v }), numRd⟩, ⟨listSFV 112 k1, listFld 112 16 (by decide) digC (·.path) (fun p v => { p with path := v }), lrd 16 digG⟩, ⟨listSFV 118 k2, listFld 118 67 (by decide) digC (·.wots) (fun p v => { p with wots := v }), lrd 67 digG⟩], rfl, rfl, rfl, fun p x hx => ?_, fun p => ?_⟩
  · simp only [List.mem_cons, List.not_mem_nil, or_false] at hx
    rcases hx with rfl | rfl | rfl
    · exact read_num (T := 53) h0 hlo hrt hS (slot_index_l p) (fun p h => by cases p; simp_all)
    · exact read_strs (T := 53) (by decide) h1 hlo hrt hS hG (slot_path_l p) (fun p h => by cases p; simp_all)
    · exact read_strs (T := 53) (by decide) h2 hlo hrt hS hG (slot_wots_l p) (fun p h => by cases p; simp_all)
  · rfl

theorem seen_any {σ : Type} (s : σ) : ∀ (xs : List (RW σ)), (xs.Pairwise fun x y => x.f.key ≠ y.f.key) → ∀ x ∈ xs, (xs.any fun y => y.f.key == x.f.key && (y.g.view s).isSome) = (x.g.view s).isSome
  | [], _, x, hx => by cases hx
  | y :: ys, F, x, hx => by
    have F1 := List.pairwise_cons.1 F
    rw [List.any_cons]
    rcases List.mem_cons.1 hx with rfl | hx
    · have e : (ys.any fun y => y.f.key == x.f.key && (y.g.view s).isSome) = false := by
        rw [List.any_eq_false]
        intro y hy
        rw [show (y.f.key == x.f.key) = false from by rw [beq_eq_false_iff_ne]; exact fun e => F1.1 y hy e.symm]
        simp
      rw [e]; simp
    · rw [show (y.f.key == x.f.key) = false from by rw [beq_eq_false_iff_ne]; exact F1.1 x hx, seen_any s ys F1.2 x hx]
      simp
/-- what a thing within a thing reads -/
def thRd {σ : Type} (C : Codec σ) (z : σ → Bool) (left : (List UInt8)) (a : Nat) : Res (Option σ) := match C.get left a with
  | .error f => .error f
  | .ok (v, k) => .ok (if z v then none else some v, k)
theorem nz_thRd {σ : Type} (C : Codec σ) (z : σ → Bool) (left : (List UInt8)) (a : Nat) : (nzC C z).get left a = match thRd C z left a with
    | .ok (some v, k) => .ok (v, k)
    | .ok (none, _) => .error (5, 0)
    | .error f => .error f := by
  unfold thRd
  show (match C.get left a with | .error f => (Except.error f : Res σ) | .ok (x, k) => if z x then .error (5, 0) else .ok (x, k)) = _
  generalize C.get left a = r
  cases r with
  | error f => rfl
  | ok q =>
    obtain ⟨v, k⟩ := q
    dsimp only
    cases z v <;> rfl
set_option maxRecDepth 100000 in
theorem read_thing {ρ σ : Type} {w0 : World} {rb t : Nat} {S : (List UInt8)} {Rp : ρ → World → Prop} {lo k fb : Nat} {c : UInt8} {nd : Bool} {of : ρ → σ} {set : ρ → σ → ρ} {C : Codec σ} {z : σ → Bool} {zero : σ} {xs : List (RW σ)}
    (hk : New lo k (.slice (some ⟨fb, 0, none⟩) xs.length xs.length) 60 w0) (hr : RowAt fb (xs.map (·.f)) w0) (hfb : lo ≤ fb) (hlo : rb < lo ∧ t < lo) (hS : S.length ≤ 1000000) (hG : 4 ≤ rb ∧ 4 ≤ t) (ht : t < w0.heap.size)
    (F : Flds (xs.map (·.g)) zero) (hf : ∀ p, ∀ x ∈ xs, ReadF w0 rb t S (fun s w => Rp (set p s) w) x) (hst : ∀ p w w', Rp p w → Duo rb rb w w' → Rp p w')
    (hC : ∀ left a, mapG (xs.map (·.g)) zero (fun s => !xs.any fun x => x.f.needed && !(x.g.view s).isSome) left a = C.get left a)
    (hz : ∀ s, z s = !xs.any fun x => (x.g.view s).isSome) (hzz : ∀ s, z s = true → s = zero) (hset : ∀ p, set p (of p) = p) : ReadF w0 rb t S Rp ⟨thingFV c nd k, nzFld c C z of set, thRd C z⟩ where
  key := rfl
  tE := fun _ _ => by kernel_rfl
  rE := fun _ _ => by kernel_rfl
  get left a := by
    refine (nz_thRd C z left a).trans ?_
    dsimp only [nzFld]
    cases thRd C z left a with
    | error f => rfl
    | ok q =>
      obtain ⟨vo, k⟩ := q
      cases vo <;> rfl
  there w p hd hp := by
    have hky : xs.Pairwise fun x y => x.f.key ≠ y.f.key := by
      have h := F.keys
      rw [List.pairwise_map] at h
      exact h.imp_of_mem fun {x y} hx hy h => by rw [(hf p x hx).key, (hf p y hy).key]; exact h
    have hsz : (xs.map (·.f)).length = xs.length := by simp
    have hf8 := F.few
    have e : ((nzFld c C z of set).view p).isSome = (xs.map (·.f)).any fun f => xs.any fun y => y.f.key == f.key && (y.g.view (of p)).isSome := by
      show (if z (of p) then none else some (of p)).isSome = _
      rw [List.any_map, show (xs.any ((fun f => xs.any fun y => y.f.key == f.key && (y.g.view (of p)).isSome) ∘ (·.f))) = xs.any fun x => (x.g.view (of p)).isSome from any_congr fun x hx => seen_any (of p) xs hky x hx, show (xs.any fun x => (x.g.view (of p)).isSome) = !z (of p) by rw [hz, Bool.not_not]]
      cases z (of p) <;> rfl
    have hrw : RowAt fb (xs.map (·.f)) w := (hd.block fb (lit_lt hr) (by omega) (by omega)).trans hr
    rw [e]
    refine thing1_any (F := xs.map (·.f)) (Ok := fun w => Duo rb t w0 w ∧ Rp p w) (fun f hf0 => ?_) (fun w1 w2 h hb => ⟨h.1.trans (Duo.below hb), hst p w1 w2 h.2 (Duo.below hb)⟩) k fb xs.length w (by rw [hsz]; exact duo_cap hd hk hlo) hrw.row (lit_lt hrw) (by rw [hsz]; rw [List.length_map] at hf8; omega) ⟨hd, hp⟩
    obtain ⟨x, hx, rfl⟩ := List.mem_map.1 hf0
    have hx0 := hf p x hx
    refine ⟨hx0.tE, fun w1 h => ?_, fun w1 w2 h hb => ⟨h.1.trans (Duo.below hb), hst p w1 w2 h.2 (Duo.below hb)⟩⟩
    rw [seen_any (of p) xs hky x hx]
    exact hx0.there w1 (of p) h.1 (by rw [hset]; exact h.2)
  read w p a hd hg hp hv hR ha := by
    have hzp : z (of p) = true := by
      have h : (if z (of p) then none else some (of p)) = none := hv
      cases hq : z (of p) with
      | true => rfl
      | false => rw [hq] at h; cases h
    have hs0 : set p zero = p := by rw [← hzz _ hzp]; exact hset p
    have hf8 := F.few
    rw [List.length_map] at hf8
    have hks := duo_cap hd hk hlo
    refine (thing3_any k rb fb xs.length xs.length S (fun s w => Rp (set p s) w) a w.heap.size t (C.get (S.drop a) a) w hks (Nat.le_refl _) (fun w1 hb1 => ?_)).mono ?_
    · rw [← hC]
      exact wrow_any w0 rb t fb 0 xs.length S (fun s w => Rp (set p s) w) (fun s w w' h ho => hst _ w w' h (Duo.only ho)) xs (hf p) zero F a w1 hG hS ⟨hf8, Nat.le_refl _⟩ hr.row (lit_lt hr) ⟨by omega, by omega⟩ ht
        ⟨hd.trans (Duo.below hb1), hg.next hb1, by show Rp (set p zero) w1; rw [hs0]; exact hst p w w1 hp (Duo.below hb1), ⟨(hb1.block rb (lit_lt hR.r)).trans hR.r, hR.m⟩, ha⟩
    · intro e w' hres
      show Read rb t S Rp a w.heap.size w (RW.step ⟨thingFV c nd k, nzFld c C z of set, thRd C z⟩ p (S.drop a) a) e w'
      unfold RW.step thRd
      dsimp only
      cases hl : C.get (S.drop a) a with
      | error f =>
        obtain ⟨c1, b1⟩ := f
        rw [hl] at hres
        obtain ⟨k1, k2, k3, q, k4⟩ := hres
        exact ⟨k1, k2, k3, _, k4⟩
      | ok q =>
        obtain ⟨v, j⟩ := q
        rw [hl] at hres
        obtain ⟨k1, k2, k3, k4, k5⟩ := hres
        dsimp only
        cases hq : z v with
        | true =>
          rw [hzz v hq, hs0] at k2
          exact ⟨k1, k2, k3, k4, k5⟩
        | false => exact ⟨k1, k2, k3, k4, k5⟩
end Go.Proofs.YtlhmmplkdjibkaaGreatDoor
/- Slot: its row reads. -/
namespace Go.Proofs.YtlhmmplkdjibkaaGreatDoor
open Go.RowKit

theorem Duo.weak {A x : Nat} {w w' : World} (h : Duo A A w w') : Duo A x w w' := ⟨h.os, h.tape, h.output, h.size, fun k hk h1 _ => h.block k hk h1 h1⟩
theorem RpSlot.next {B rb t : Nat} {p : SlotR} {w w' : World} (hrt : t ≠ rb) (h : RpSlot B rb t p w) (hd : Duo rb rb w w') : RpSlot B rb t p w' := by
  obtain ⟨⟨hB, hrb⟩, wa, wc, pa, pc, h1, h2, h3⟩ := h
  have hs := hd.size
  exact ⟨⟨by omega, by omega⟩, wa, wc, pa, pc, (hd.block t (lit_lt h1) hrt hrt).trans h1, h2.next hd.weak, h3.next hd.weak⟩
theorem any_g {σ : Type} (xs : List (RW σ)) (s : σ) : (xs.any fun x => (x.g.view s).isSome) = (xs.map (·.g)).any fun g => (g.view s).isSome := by rw [List.any_map]; rfl
theorem sigZ_any (s : SigR) : sigZ s = !sigFs.any fun g => (g.view s).isSome := by
  obtain ⟨i, ws, ps⟩ := s
  simp only [sigFs, List.any_cons, List.any_nil, numFld, listFld, sigZ, Bool.or_false]
  cases i <;> cases ws <;> cases ps <;> rfl
theorem sigZ_zero {s : SigR} (h : sigZ s = true) : s = zSig := by
  obtain ⟨i, ws, ps⟩ := s
  cases i <;> cases ws <;> cases ps <;> first | rfl | (simp [sigZ] at h)
set_option maxRecDepth 100000 in
theorem slot_rd {w0 : World} {lo rb t fb B : Nat} {S : (List UInt8)} {fs : List FV} (hK : SlotK lo t 0 fb fs w0) (hlo : rb < lo ∧ t < lo) (hrt : t ≠ rb) (hS : S.length ≤ 1000000) (hG : 4 ≤ rb ∧ 4 ≤ t) (ht : t < w0.heap.size) : ∃ xs : List (RW SlotR), fs = xs.map (·.f) ∧ xs.length = 3 ∧ xs.map (·.g) = slotFs ∧ (∀ x ∈ xs, ReadF w0 rb t S (RpSlot B rb t) x) ∧ ∀ p, okV slotFs p → (!xs.any fun x => x.f.needed && !(x.g.view p).isSome) = true := by
  obtain ⟨⟨k0, fb0, k1, k2, rfl, h0, ⟨fs0, hK0⟩, h1, h2⟩, _, _⟩ := hK
  obtain ⟨ys, hfs, hyn, hyg, hyf, hyfin⟩ := sig_rd (B := B) hK0 hlo hrt hS hG
  refine ⟨[⟨thingFV 103 false k0, nzFld 103 sigC sigZ (·.sig) (fun p v => { p with sig := v }), thRd sigC sigZ⟩, ⟨numFV 108 k1, numFld 108 (·.l) (fun p v => { p with l := v }), numRd⟩, ⟨yesFV 115 k2, yesFld 115 (·.signed) (fun p v => { p with signed := v }), yesRd⟩], rfl, rfl, rfl, fun x hx => ?_, fun p _ => ?_⟩
  · simp only [List.mem_cons, List.not_mem_nil, or_false] at hx
    rcases hx with rfl | rfl | rfl
    · refine read_thing (xs := ys) (zero := zSig) (lo := lo) (fb := fb0) (by rw [hyn]; exact h0) (by rw [← hfs]; exact hK0.r) hK0.l hlo hS hG ht (by rw [hyg]; exact sig_flds) hyf (fun p w w' h hd => h.next hrt hd) (fun left a => ?_) (fun s => by rw [any_g, hyg]; exact sigZ_any s) (fun s h => sigZ_zero h) (fun p => rfl)
      rw [hyg]
      exact mapG_congr sig_flds (fun s _ => hyfin s) left a
    · exact read_num (T := 53) h1 hlo hrt hS slot_l_l (fun p h => by cases p; simp_all)
    · exact read_yes (T := 53) h2 hlo hrt hS slot_signed_l (fun p h => by cases p; simp_all)
  · rfl
end Go.Proofs.YtlhmmplkdjibkaaGreatDoor
/- read[Slot]. -/
namespace Go.Proofs.YtlhmmplkdjibkaaGreatDoor
open Go.RowKit

/-- a list that was made behind lo -/
def Fresh (lo : Nat) (ao : Option Addr) (L : List (List UInt8)) (w : World) : Prop := L = [] ∨ ∃ b, ao = some ⟨b, 0, none⟩ ∧ lo ≤ b ∧ b < w.heap.size ∧ ∀ i (h : i < L.length), w.cell? ⟨b, i, none⟩ = some (.string ⟨(L[i]).toArray⟩)
theorem OwnS.fresh {B rb t lo cp : Nat} {ao : Option Addr} {L : List (List UInt8)} {w w' : World} (h : OwnS B rb t ao cp L w) (hl : lo ≤ B) (hk : ∀ k, k < w.heap.size → B ≤ k → k ≠ t → k ≠ rb → w'.heap[k]? = w.heap[k]?) (hs : w.heap.size ≤ w'.heap.size) : Fresh lo ao L w' := by
  rcases h with h | ⟨b, _, h1, h2, h3, h4, h5, h6⟩
  · exact .inl h.1
  · exact .inr ⟨b, h1, by omega, by omega, fun i hi => (World.cell?_of_block (a := ⟨b, i, none⟩) (hk b h5 h2 h4 h3)).trans (h6 i hi)⟩

/-- what read answers -/
def AnsSlot (S : (List UInt8)) (w : World) (e : Ending) (w' : World) : Prop := match wholeG slotC.get S with
  | .ok p => (∃ x : SlotE, x.r = p ∧ e = .returned (.tuple #[slotV x, .nilIface]) ∧ Fresh w.heap.size x.wa p.sig.wots w' ∧ Fresh w.heap.size x.pa p.sig.path w') ∧ Below w.heap.size w w'
  | .error (c, b) => c ≠ 0 ∧ (∃ v, e = .returned (.tuple #[.agg #[.int .u64 0, .bool false, .int .u64 0, .slice none 0 0, .slice none 0 0], v]) ∧ ErrV w.heap.size c b v w') ∧ Below w.heap.size w w'
set_option maxRecDepth 100000 in
set_option maxHeartbeats 4000000 in
theorem freadSlot_any (S : (List UInt8)) (w : World) (hG : GlobW w) (hS : S.length ≤ 1000000) (hgl : 4 ≤ w.heap.size) :
    Calls Tryz.prog 83 #[.string ⟨S.toArray⟩, .func (.func 81) #[] #[]] w (AnsSlot S w) := by
  have hmf : ∀ (fn : Fn) (first cap : Array Value) (w : World), (Instr.makeFunc fn first cap).run Tryz.prog w = .ok (.func fn first cap) w := fun _ _ _ _ => rfl
  have hb0 : Below w.heap.size w ((w.alloc (.cells #[.int .u64 0, .bool false, .int .u64 0, .slice none 0 0, .slice none 0 0] 53)).alloc (.cells #[.nilIface] 38)) := (by0 w _).alloc (by simp) _
  have hz0 : ((w.alloc (.cells #[.int .u64 0, .bool false, .int .u64 0, .slice none 0 0, .slice none 0 0] 53)).alloc (.cells #[.nilIface] 38)).heap.size = w.heap.size + 1 + 1 := by simp
  have hx0 : ((w.alloc (.cells #[.int .u64 0, .bool false, .int .u64 0, .slice none 0 0, .slice none 0 0] 53)).alloc (.cells #[.nilIface] 38)).heap[w.heap.size]? = some (.cells #[.int .u64 0, .bool false, .int .u64 0, .slice none 0 0, .slice none 0 0] 53 (0, 0)) := lit_old _ (heap_alloc_new w _)
  have he0 : ((w.alloc (.cells #[.int .u64 0, .bool false, .int .u64 0, .slice none 0 0, .slice none 0 0] 53)).alloc (.cells #[.nilIface] 38)).heap[w.heap.size + 1]? = some (.cells #[.nilIface] 38 (0, 0)) := by
    rw [show w.heap.size + 1 = (w.alloc (.cells #[.int .u64 0, .bool false, .int .u64 0, .slice none 0 0, .slice none 0 0] 53)).heap.size by simp]; exact heap_alloc_new _ _
  have HB0 := Lib.hid hb0
  have HZ0 := Lib.hid hz0
  have HX0 := Lib.hid hx0
  have HE0 := Lib.hid he0
  have HG := Lib.hid hG
  have HSL := Lib.hid hS
  have HGL := Lib.hid hgl
  have HU := Lib.hid (reader_c.new S 10240 _ (hG.u.next hb0) hS (by decide) (by decide))
  clear hb0 hz0 hx0 he0 hG hS hgl
  go_enter_defers Tryz.func83, Tryz.ntmps83
  go_upto_region 2 with fail
  generalize (w.alloc (.cells #[.int .u64 0, .bool false, .int .u64 0, .slice none 0 0, .slice none 0 0] 53)).alloc (.cells #[.nilIface] 38) = w1 at *
  go_upto_region 3 with (go_at_call 59; refine HU.out.mono ?_; rintro e w2 ⟨rb, hrb, rfl, hr2, hb2⟩)
  have hz0 := HZ0.out
  have hb02 : Below w.heap.size w w2 := HB0.out.trans (hb2.mono (by omega))
  have hx2 := (hb2.block w.heap.size (by omega)).trans HX0.out
  have he2 := (hb2.block (w.heap.size + 1) (by omega)).trans HE0.out
  have hrl : rb < w2.heap.size := lit_lt hr2.r
  have hN : (w2.alloc (.cells #[.pointer (some ⟨rb, 0, none⟩)] 124)).drew.heap[w2.heap.size]? = some (.cells #[.pointer (some ⟨rb, 0, none⟩)] 124 (0, 0)) := heap_alloc_new w2 _
  have hb23 : Below w2.heap.size w2 (w2.alloc (.cells #[.pointer (some ⟨rb, 0, none⟩)] 124)).drew := (by0 w2 _).drew
  have HS3 : Hid (w2.heap.size < (w2.alloc (.cells #[.pointer (some ⟨rb, 0, none⟩)] 124)).drew.heap.size) := Lib.hid (by show _ < (w2.alloc _).heap.size; rw [World.size_alloc]; omega)
  refine wp_cel (X := .pointer (some ⟨w.heap.size, 0, none⟩)) (Y := .pointer (some ⟨w.heap.size + 1, 0, none⟩)) (D := [{ target := .fn (.func 137) #[.pointer (some ⟨w.heap.size, 0, none⟩), .pointer (some ⟨w.heap.size + 1, 0, none⟩)], args := #[] }]) ?_
  refine wp_region_held_drew (S := fun w' => w'.heap[w2.heap.size]? = some (.cells #[.pointer (some ⟨rb, 0, none⟩)] 124 (0, 0))) (by kernel_rfl) hN (fun hH => ?_)
  generalize (w2.alloc (.cells #[.pointer (some ⟨rb, 0, none⟩)] 124)).drew = w3 at *
  have HR := Lib.hid (slot_mk w3.heap.size w.heap.size 0 w3 (Nat.le_refl _))
  have HB03 := Lib.hid (hb02.trans (hb23.mono hb02.size))
  have HX3 := Lib.hid ((hb23.block w.heap.size (lit_lt hx2)).trans hx2)
  have HE3 := Lib.hid ((hb23.block (w.heap.size + 1) (lit_lt he2)).trans he2)
  have HR3 : Hid (RQ rb S 0 10240 w3) := Lib.hid ⟨(hb23.block rb hrl).trans hr2.r, hr2.m⟩
  have HRL : Hid (w.heap.size + 1 + 1 ≤ rb ∧ rb < w2.heap.size) := Lib.hid (by omega)
  clear hb02 hx2 he2 hb23 hN hr2 hb2 hrl
  refine wpAnyH_take (i := 0) (oi := ⟨some 12, .load 124 (.tmp 6), _, _, _, none⟩) (v := .agg #[.pointer (some ⟨rb, 0, none⟩)]) rfl (by kernel_rfl) (by kernel_rfl) (by kernel_rfl) (Cel.put (by decide)) (Or.inl ⟨by rfl, fun w1 hS => by have c0 := (lit_cell hS 0).trans rfl; go_simp⟩) hH ?_
  try simp only [Act.put, List.setIfInBounds_toArray, List.set_cons_succ, List.set_cons_zero]
  refine wpAnyH_take (i := 1) (oi := ⟨some 13, .move (.tmp 1), _, _, _, none⟩) (v := .func (.func 81) #[] #[]) rfl (by kernel_rfl) (by kernel_rfl) (by kernel_rfl) (Cel.put (by decide)) (Or.inl ⟨by rfl, fun _ _ => rfl⟩) hH ?_
  try simp only [Act.put, List.setIfInBounds_toArray, List.set_cons_succ, List.set_cons_zero]
  refine wpAnyH_ready (rs := [2]) (by kernel_rfl) (by simp) (AllReadyH.cons (o := ⟨some 14, .call ⟨.value (.tmp 13), #[.tmp 4], #[_]⟩, _, _, _, none⟩) rfl (fun K hK => ?_) AllReadyH.nil)
  have HK := Lib.hid hK
  clear hK
  go_simp
  refine HR.out.mono ?_
  rintro e w4 ⟨fb, fs, rfl, hK4, hb4⟩
  have hH4 := (hb4.block w2.heap.size (lit_lt hH)).trans hH
  obtain ⟨xs, hfs, hxn, hxg, hxf, hxfin⟩ := slot_rd (B := w.heap.size + 1 + 1) (S := S) (rb := rb) hK4 (by have := HRL.out; have := HS3.out; omega) (by have := HRL.out; omega) HSL.out ⟨by have := HRL.out; have := HGL.out; omega, HGL.out⟩ (by have := lit_lt HX3.out; have := hb4.size; omega)
  have HB04 := Lib.hid (HB03.out.trans (hb4.mono HB03.out.size))
  have HX4 := Lib.hid ((hb4.block w.heap.size (lit_lt HX3.out)).trans HX3.out)
  have HE4 := Lib.hid ((hb4.block (w.heap.size + 1) (lit_lt HE3.out)).trans HE3.out)
  have HR4 : Hid (RQ rb S 0 10240 w4) := Lib.hid ⟨(hb4.block rb (by have := HRL.out; have := HS3.out; omega)).trans HR3.out.r, HR3.out.m⟩
  have hflds := slot_flds
  have hGU4 := HG.out.u.next HB04.out
  have hrow := wrow_any w4 rb w.heap.size fb 0 3 S (RpSlot (w.heap.size + 1 + 1) rb w.heap.size) (fun p u u' h ho => h.next (by have := HRL.out; omega) (Duo.only ho)) xs hxf zSlot (by rw [hxg]; exact slot_flds) 0 w4 (by have := HRL.out; have := HGL.out; omega) HSL.out (by rw [hxn]; decide) (by rw [← hfs]; exact hK4.r.row) (lit_lt hK4.r) (by have := hK4.l; have := HRL.out; have := HS3.out; omega) (by have := lit_lt HX4.out; exact this) ⟨Duo.refl _ _ _, hGU4, ⟨⟨by have := lit_lt HE4.out; omega, by have := lit_lt HR4.out.r; omega⟩, none, 0, none, 0, HX4.out, .inl ⟨rfl, rfl, rfl⟩, .inl ⟨rfl, rfl, rfl⟩⟩, HR4.out, Nat.zero_le _⟩
  rw [hxg, mapG_congr slot_flds hxfin, hxn, List.drop_zero] at hrow
  have HGU4 := Lib.hid hGU4
  have HROW := Lib.hid hrow
  clear hrow hfs hxn hxg hxf hxfin hK4 hb4 hflds hGU4
  refine HK.out.out _ _ hH4 (fun _ => ?_)
  clear HK K
  try simp only [Act.put, List.setIfInBounds_toArray, List.set_cons_succ, List.set_cons_zero]
  refine wpAnyH_ready (rs := [3]) (by kernel_rfl) (by simp) (AllReadyH.cons (o := ⟨some 15, .call ⟨.value (.func 60), #[.tmp 12, .tmp 14], #[124, 60]⟩, _, _, _, none⟩) rfl (fun K hK => ?_) AllReadyH.nil)
  have HK := Lib.hid hK
  clear hK
  go_simp
  refine HROW.out.mono ?_
  intro e w5 h5
  change Read rb w.heap.size S (RpSlot (w.heap.size + 1 + 1) rb w.heap.size) 0 w4.heap.size w4 (slotC.get S 0) e w5 at h5
  cases hres : slotC.get S 0 with
  | error f =>
    rw [hres] at h5
    obtain ⟨hc, ⟨g, hg, rfl, hf0, hf1⟩, hd, q, _, wa, wc, pa, pc, hq, _, _⟩ := h5
    refine ⟨⟨rfl, rfl, rfl⟩, fun tm hm4 hm5 => ?_⟩
    have hrb := HRL.out
    have hE5 := (hd.block (w.heap.size + 1) (lit_lt HE4.out) (by omega) (by omega)).trans HE4.out
    have hgl5 := World.block_lt_of_cell? _ _ hf0
    have hg4 := lit_lt HE4.out
    refine leaves_cons (f := 137) (args := #[.pointer (some ⟨w.heap.size, 0, none⟩), .pointer (some ⟨w.heap.size + 1, 0, none⟩)]) (by simp) (by simp [go_sem]) ?_
    refine (readSlot1_catch g w.heap.size (w.heap.size + 1) _ _ _ _ _ .nilIface [] w5 (HGU4.out.duo hd (by have := HGL.out; omega) HGL.out).e hgl5 (by omega) hq hE5).mono ?_
    rintro e u' w'' ⟨rfl, rfl, hC⟩
    have z0 := (lit_cell hC.x 0).trans rfl; have z1 := (lit_cell hC.x 1).trans rfl; have z2 := (lit_cell hC.x 2).trans rfl; have z3 := (lit_cell hC.x 3).trans rfl; have z4 := (lit_cell hC.x 4).trans rfl
    have y0 := (lit_cell hC.e 0).trans rfl
    refine ⟨.tuple #[.agg #[.int .u64 0, .bool false, .int .u64 0, .slice none 0 0, .slice none 0 0], .iface 85 (.pointer (some ⟨g, 0, none⟩))], by simp [results, Tryz.results83, go_sem, hm4, hm5, z0, z1, z2, z3, z4, y0], ?_⟩
    have hgb : ∀ o, w''.cell? ⟨g, o, none⟩ = w5.cell? ⟨g, o, none⟩ := fun o => World.cell?_of_block (a := ⟨g, o, none⟩) (hC.d.block g hgl5 (by omega) (by omega))
    rw [AnsSlot, wholeG, hres]
    exact ⟨hc, ⟨_, rfl, by rw [ErrV, if_neg (by omega)]; exact ⟨g, by omega, rfl, (hgb 0).trans hf0, (hgb 1).trans hf1⟩⟩, below_duo (below_duo HB04.out hd (by omega) (Nat.le_refl _)) hC.d (Nat.le_refl _) (by omega)⟩
  | ok q =>
    obtain ⟨q, k⟩ := q
    rw [hres] at h5
    obtain ⟨rfl, hq, hR5, hk, hd⟩ := h5
    obtain ⟨_, wa, wc, pa, pc, hq, hO1, hO2⟩ := hq
    have HO1 := Lib.hid hO1
    have HO2 := Lib.hid hO2
    clear hO1 hO2
    have hrb := HRL.out
    have hg4 := lit_lt HE4.out
    have hH5 := (hd.block w2.heap.size (lit_lt hH4) (by omega) (by omega)).trans hH4
    refine HK.out.out _ _ hH5 (fun _ => ?_)
    clear HK K
    try simp only [Act.put, List.setIfInBounds_toArray, List.set_cons_succ, List.set_cons_zero]
    refine wpAnyH_done (by kernel_rfl) ?_ _
    change Exit.then _ (bodyPostD Tryz.prog Tryz.f83 (AnsSlot S w)) Exit.normal _ _
    have hGU5 := HGU4.out.duo hd (by have := HGL.out; omega) HGL.out
    have HB05 := Lib.hid (below_duo HB04.out hd (by omega) (Nat.le_refl _))
    have hE5 := (hd.block (w.heap.size + 1) (lit_lt HE4.out) (by omega) (by omega)).trans HE4.out
    have HF := Lib.hid (reader_c.fin rb S (0 + k) 10240 w5 hR5 hGU5 HSL.out hk)
    have HQ := Lib.hid hq
    have HE5 := Lib.hid hE5
    have HGU5 := Lib.hid hGU5
    have HLT := Lib.hid (show w.heap.size + 1 < w5.heap.size from lit_lt hE5)
    have c0 := (lit_cell hH5 0).trans rfl
    clear hq hR5 hd hrb hg4 hH5 hGU5 hE5 hk hH hH4 hmf
    by_cases hl : 0 + k < S.length
    · have HA : Hid (wholeG slotC.get S = .error (5, k)) := Lib.hid (by rw [wholeG, hres]; exact if_pos (by omega))
      rw [if_pos hl] at HF
      clear hl hres
      go_wp2_with (go_at_call 61; refine HF.out.mono ?_; rintro e w6 ⟨v, rfl, hv, hb6⟩; obtain ⟨g, rfl, g1, hg, hgg, hf0, hf1⟩ := hv.shape (by decide); cases hgg)
      have hX6 := (hb6.block w.heap.size (by have := HLT.out; omega)).trans HQ.out
      have hE6 := (hb6.block (w.heap.size + 1) HLT.out).trans HE5.out
      have hgl5 := World.block_lt_of_cell? _ _ hf0
      have hlt := HLT.out
      refine leaves_cons (f := 137) (args := #[.pointer (some ⟨w.heap.size, 0, none⟩), .pointer (some ⟨w.heap.size + 1, 0, none⟩)]) (by simp) (by simp [go_sem]) ?_
      refine (readSlot1_catch g w.heap.size (w.heap.size + 1) _ _ _ _ _ .nilIface [] w6 (HGU5.out.next hb6).e hgl5 (by omega) hX6 hE6).mono ?_
      rintro e u' w'' ⟨rfl, rfl, hC⟩
      have z0 := (lit_cell hC.x 0).trans rfl; have z1 := (lit_cell hC.x 1).trans rfl; have z2 := (lit_cell hC.x 2).trans rfl; have z3 := (lit_cell hC.x 3).trans rfl; have z4 := (lit_cell hC.x 4).trans rfl
      have y0 := (lit_cell hC.e 0).trans rfl
      refine ⟨.tuple #[.agg #[.int .u64 0, .bool false, .int .u64 0, .slice none 0 0, .slice none 0 0], .iface 85 (.pointer (some ⟨g, 0, none⟩))], by simp [results, Tryz.results83, go_sem, z0, z1, z2, z3, z4, y0], ?_⟩
      have hgb : ∀ o, w''.cell? ⟨g, o, none⟩ = w6.cell? ⟨g, o, none⟩ := fun o => World.cell?_of_block (a := ⟨g, o, none⟩) (hC.d.block g hgl5 (by omega) (by omega))
      rw [AnsSlot, HA.out]
      exact ⟨by decide, ⟨_, rfl, by rw [ErrV, if_neg (by decide)]; exact ⟨g, by omega, rfl, (hgb 0).trans hf0, (hgb 1).trans (hf1.trans (by rw [Nat.zero_add]))⟩⟩, below_duo (HB05.out.trans (hb6.mono (by omega))) hC.d (Nat.le_refl _) (by omega)⟩
    · have HA : Hid (wholeG slotC.get S = .ok q) := Lib.hid (by rw [wholeG, hres]; exact if_neg (by omega))
      rw [if_neg hl] at HF
      clear hl hres
      go_wp2_with (go_at_call 61; refine HF.out.mono ?_; rintro e w6 ⟨v, rfl, hv, hb6⟩; have hnil := hv.nil rfl; subst hnil; have hX6 := (hb6.block w.heap.size (by have := HLT.out; omega)).trans HQ.out; have hE6 := (hb6.block (w.heap.size + 1) HLT.out).trans HE5.out; simp only [slotQ] at hX6; have p0 := (lit_cell hX6 0).trans rfl; have q0 := lit_free hX6 0; have p1 := (lit_cell hX6 1).trans rfl; have q1 := lit_free hX6 1; have p2 := (lit_cell hX6 2).trans rfl; have q2 := lit_free hX6 2; have p3 := (lit_cell hX6 3).trans rfl; have q3 := lit_free hX6 3; have p4 := (lit_cell hX6 4).trans rfl; have q4 := lit_free hX6 4; have y0 := (lit_cell hE6 0).trans rfl; have y1 := lit_free hE6 0)
      have hlt := HLT.out
      have hx7 := lit_set (k := 4) (.slice pa q.sig.path.length pc) (lit_set (k := 3) (.slice wa q.sig.wots.length wc) (lit_set (k := 2) (.int .u64 (q.sig.index : Int)) (lit_set (k := 1) (.bool q.signed) (lit_set (k := 0) (.int .u64 (q.l : Int)) (hX6)))))
      have ho7 : Only w.heap.size w6 ((((((w6).setCell ⟨w.heap.size, 0, none⟩ (.int .u64 (q.l : Int))).setCell ⟨w.heap.size, 1, none⟩ (.bool q.signed)).setCell ⟨w.heap.size, 2, none⟩ (.int .u64 (q.sig.index : Int))).setCell ⟨w.heap.size, 3, none⟩ (.slice wa q.sig.wots.length wc)).setCell ⟨w.heap.size, 4, none⟩ (.slice pa q.sig.path.length pc)) := ((((((Only.refl w.heap.size w6).trans (Only.set w.heap.size 0 (.int .u64 (q.l : Int)) (w6))).trans (Only.set w.heap.size 1 (.bool q.signed) ((w6).setCell ⟨w.heap.size, 0, none⟩ (.int .u64 (q.l : Int))))).trans (Only.set w.heap.size 2 (.int .u64 (q.sig.index : Int)) (((w6).setCell ⟨w.heap.size, 0, none⟩ (.int .u64 (q.l : Int))).setCell ⟨w.heap.size, 1, none⟩ (.bool q.signed)))).trans (Only.set w.heap.size 3 (.slice wa q.sig.wots.length wc) ((((w6).setCell ⟨w.heap.size, 0, none⟩ (.int .u64 (q.l : Int))).setCell ⟨w.heap.size, 1, none⟩ (.bool q.signed)).setCell ⟨w.heap.size, 2, none⟩ (.int .u64 (q.sig.index : Int))))).trans (Only.set w.heap.size 4 (.slice pa q.sig.path.length pc) (((((w6).setCell ⟨w.heap.size, 0, none⟩ (.int .u64 (q.l : Int))).setCell ⟨w.heap.size, 1, none⟩ (.bool q.signed)).setCell ⟨w.heap.size, 2, none⟩ (.int .u64 (q.sig.index : Int))).setCell ⟨w.heap.size, 3, none⟩ (.slice wa q.sig.wots.length wc))))
      have he7 := (ho7.block (w.heap.size + 1) (lit_lt hE6) (by omega)).trans hE6
      have hd7 : Below w.heap.size w ((((((w6).setCell ⟨w.heap.size, 0, none⟩ (.int .u64 (q.l : Int))).setCell ⟨w.heap.size, 1, none⟩ (.bool q.signed)).setCell ⟨w.heap.size, 2, none⟩ (.int .u64 (q.sig.index : Int))).setCell ⟨w.heap.size, 3, none⟩ (.slice wa q.sig.wots.length wc)).setCell ⟨w.heap.size, 4, none⟩ (.slice pa q.sig.path.length pc)) := below_duo (HB05.out.trans (hb6.mono (by omega))) (Duo.only (x := w.heap.size) ho7) (Nat.le_refl _) (Nat.le_refl _)
      generalize (((((w6).setCell ⟨w.heap.size, 0, none⟩ (.int .u64 (q.l : Int))).setCell ⟨w.heap.size, 1, none⟩ (.bool q.signed)).setCell ⟨w.heap.size, 2, none⟩ (.int .u64 (q.sig.index : Int))).setCell ⟨w.heap.size, 3, none⟩ (.slice wa q.sig.wots.length wc)).setCell ⟨w.heap.size, 4, none⟩ (.slice pa q.sig.path.length pc) = w7 at *
      have hx8 := (lit_far (w := w7) (b := w.heap.size + 1) (c := w.heap.size) (k := 0) .nilIface (by omega)).trans hx7
      have he8 := lit_set (k := 0) .nilIface he7
      have hk8 : ∀ k, k < w6.heap.size → k ≠ w.heap.size → k ≠ w.heap.size + 1 → (w7.setCell ⟨w.heap.size + 1, 0, none⟩ .nilIface).heap[k]? = w6.heap[k]? := fun k hk h1 h2 => (lit_far _ h2).trans (ho7.block k hk h1)
      have hs8 : w6.heap.size ≤ (w7.setCell ⟨w.heap.size + 1, 0, none⟩ .nilIface).heap.size := by simp; exact ho7.size
      have hb8 : Below w.heap.size w (w7.setCell ⟨w.heap.size + 1, 0, none⟩ .nilIface) := hd7.setCell (by simp) _
      generalize w7.setCell ⟨w.heap.size + 1, 0, none⟩ .nilIface = w8 at *
      refine leaves_cons (f := 137) (args := #[.pointer (some ⟨w.heap.size, 0, none⟩), .pointer (some ⟨w.heap.size + 1, 0, none⟩)]) (by simp) (by simp [go_sem]) ?_
      refine (readSlot1_idle w.heap.size (w.heap.size + 1) w8).mono ?_
      rintro e u' w'' ⟨rfl, rfl, rfl⟩
      have z0 := (lit_cell hx8 0).trans rfl; have z1 := (lit_cell hx8 1).trans rfl; have z2 := (lit_cell hx8 2).trans rfl; have z3 := (lit_cell hx8 3).trans rfl; have z4 := (lit_cell hx8 4).trans rfl
      have z := (lit_cell he8 0).trans rfl
      refine ⟨.tuple #[slotV ⟨q, wa, wc, pa, pc⟩, .nilIface], by simp [results, Tryz.results83, go_sem, z0, z1, z2, z3, z4, z], ?_⟩
      rw [AnsSlot, HA.out]
      have hs6 := hb6.size
      exact ⟨⟨⟨q, wa, wc, pa, pc⟩, rfl, rfl, HO1.out.fresh (by omega) (fun k hk hB ht _ => (hk8 k (by omega) ht (by omega)).trans (hb6.block k hk)) (by omega), HO2.out.fresh (by omega) (fun k hk hB ht _ => (hk8 k (by omega) ht (by omega)).trans (hb6.block k hk)) (by omega)⟩, hb8⟩
end Go.Proofs.YtlhmmplkdjibkaaGreatDoor
/- ReadSlot of the program. -/
namespace Go.Proofs.YtlhmmplkdjibkaaGreatDoor
open Go.RowKit

theorem Fresh.keep {lo lo' : Nat} {ao : Option Addr} {L : List (List UInt8)} {w w' : World} (h : Fresh lo ao L w) (hl : lo' ≤ lo) (hk : ∀ k, lo ≤ k → w'.heap[k]? = w.heap[k]?) (hs : w.heap.size ≤ w'.heap.size) : Fresh lo' ao L w' := by
  rcases h with h | ⟨b, h1, h2, h3, h4⟩
  · exact .inl h
  · exact .inr ⟨b, h1, by omega, by omega, fun i hi => (World.cell?_of_block (a := ⟨b, i, none⟩) (hk b h2)).trans (h4 i hi)⟩
theorem AnsSlot.open {S : (List UInt8)} {w1 w2 : World} {e : Ending} (h : AnsSlot S w1 e w2) : Below w1.heap.size w1 w2 ∧ ∃ (x : SlotE) (v : Value), e = .returned (.tuple #[slotV x, v]) ∧ ∀ w w'' : World, w.heap.size ≤ w1.heap.size → (∀ k, w1.heap.size ≤ k → w''.heap[k]? = w2.heap[k]?) → w2.heap.size ≤ w''.heap.size → Below w.heap.size w w'' → AnsSlot S w (.returned (.tuple #[slotV x, v])) w'' := by
  rw [AnsSlot] at h
  rcases hr : wholeG slotC.get S with ⟨c, b⟩ | q
  · rw [hr] at h
    obtain ⟨hc, ⟨v, rfl, hv⟩, hb⟩ := h
    refine ⟨hb, ⟨zSlot, none, 0, none, 0⟩, v, rfl, fun w w'' hl hk _ hb2 => ?_⟩
    rw [AnsSlot, hr]
    refine ⟨hc, ⟨v, rfl, ?_⟩, hb2⟩
    unfold ErrV at *
    rw [if_neg (by omega)] at *
    obtain ⟨g, h0, h1, h2, h3⟩ := hv
    have hg : ∀ o, w''.cell? ⟨g, o, none⟩ = w2.cell? ⟨g, o, none⟩ := fun o => World.cell?_of_block (a := ⟨g, o, none⟩) (hk g h0)
    exact ⟨g, by omega, h1, (hg 0).trans h2, (hg 1).trans h3⟩
  · rw [hr] at h
    obtain ⟨⟨x, hx, rfl, h1, h2⟩, hb⟩ := h
    refine ⟨hb, x, _, rfl, fun w w'' hl hk hs hb2 => ?_⟩
    rw [AnsSlot, hr]
    exact ⟨⟨x, hx, rfl, h1.keep hl hk hs, h2.keep hl hk hs⟩, hb2⟩
set_option maxRecDepth 100000 in
set_option maxHeartbeats 1000000 in
theorem wreadSlot_any (S : (List UInt8)) (w : World) (hG : GlobW w) (hS : S.length ≤ 1000000) (hgl : 4 ≤ w.heap.size) : Calls Tryz.prog 40 #[.string ⟨S.toArray⟩] w (AnsSlot S w) := by
  have hb0 : Below w.heap.size w (w.alloc (.cells #[.int .u64 0, .bool false, .int .u64 0, .slice none 0 0, .slice none 0 0] 53)) := by0 w _
  have HN := Lib.hid (heap_alloc_new w (.cells #[.int .u64 0, .bool false, .int .u64 0, .slice none 0 0, .slice none 0 0] 53))
  have HZ := Lib.hid (show (w.alloc (.cells #[.int .u64 0, .bool false, .int .u64 0, .slice none 0 0, .slice none 0 0] 53)).heap.size = w.heap.size + 1 by simp)
  have HC := Lib.hid (freadSlot_any S _ (hG.next hb0) hS (by have := hb0.size; omega))
  have HB := Lib.hid hb0
  clear hG hS hgl hb0
  go_enter Tryz.func40, Tryz.ntmps40
  go_upto_region 1 with fail
  change Code.wp _ _ _ _ (w.alloc (.cells #[.int .u64 0, .bool false, .int .u64 0, .slice none 0 0, .slice none 0 0] 53))
  generalize w.alloc (.cells #[.int .u64 0, .bool false, .int .u64 0, .slice none 0 0, .slice none 0 0] 53) = w1 at *
  go_wp2_with (go_at_call 83; refine HC.out.mono ?_; intro e w2 h; obtain ⟨hb2, x, v, rfl, hA⟩ := h.open; have hX6 := (hb2.block w.heap.size (lit_lt HN.out)).trans HN.out; have p0 := (lit_cell hX6 0).trans rfl; have q0 := lit_free hX6 0; have p1 := (lit_cell hX6 1).trans rfl; have q1 := lit_free hX6 1; have p2 := (lit_cell hX6 2).trans rfl; have q2 := lit_free hX6 2; have p3 := (lit_cell hX6 3).trans rfl; have q3 := lit_free hX6 3; have p4 := (lit_cell hX6 4).trans rfl; have q4 := lit_free hX6 4)
  have hz := HZ.out
  have hx7 := lit_set (k := 4) (.slice x.pa x.r.sig.path.length x.pc) (lit_set (k := 3) (.slice x.wa x.r.sig.wots.length x.wc) (lit_set (k := 2) (.int .u64 (x.r.sig.index : Int)) (lit_set (k := 1) (.bool x.r.signed) (lit_set (k := 0) (.int .u64 (x.r.l : Int)) (hX6)))))
  have ho7 : Only w.heap.size w2 ((((((w2).setCell ⟨w.heap.size, 0, none⟩ (.int .u64 (x.r.l : Int))).setCell ⟨w.heap.size, 1, none⟩ (.bool x.r.signed)).setCell ⟨w.heap.size, 2, none⟩ (.int .u64 (x.r.sig.index : Int))).setCell ⟨w.heap.size, 3, none⟩ (.slice x.wa x.r.sig.wots.length x.wc)).setCell ⟨w.heap.size, 4, none⟩ (.slice x.pa x.r.sig.path.length x.pc)) := ((((((Only.refl w.heap.size w2).trans (Only.set w.heap.size 0 (.int .u64 (x.r.l : Int)) (w2))).trans (Only.set w.heap.size 1 (.bool x.r.signed) ((w2).setCell ⟨w.heap.size, 0, none⟩ (.int .u64 (x.r.l : Int))))).trans (Only.set w.heap.size 2 (.int .u64 (x.r.sig.index : Int)) (((w2).setCell ⟨w.heap.size, 0, none⟩ (.int .u64 (x.r.l : Int))).setCell ⟨w.heap.size, 1, none⟩ (.bool x.r.signed)))).trans (Only.set w.heap.size 3 (.slice x.wa x.r.sig.wots.length x.wc) ((((w2).setCell ⟨w.heap.size, 0, none⟩ (.int .u64 (x.r.l : Int))).setCell ⟨w.heap.size, 1, none⟩ (.bool x.r.signed)).setCell ⟨w.heap.size, 2, none⟩ (.int .u64 (x.r.sig.index : Int))))).trans (Only.set w.heap.size 4 (.slice x.pa x.r.sig.path.length x.pc) (((((w2).setCell ⟨w.heap.size, 0, none⟩ (.int .u64 (x.r.l : Int))).setCell ⟨w.heap.size, 1, none⟩ (.bool x.r.signed)).setCell ⟨w.heap.size, 2, none⟩ (.int .u64 (x.r.sig.index : Int))).setCell ⟨w.heap.size, 3, none⟩ (.slice x.wa x.r.sig.wots.length x.wc))))
  have hd7 : Below w.heap.size w ((((((w2).setCell ⟨w.heap.size, 0, none⟩ (.int .u64 (x.r.l : Int))).setCell ⟨w.heap.size, 1, none⟩ (.bool x.r.signed)).setCell ⟨w.heap.size, 2, none⟩ (.int .u64 (x.r.sig.index : Int))).setCell ⟨w.heap.size, 3, none⟩ (.slice x.wa x.r.sig.wots.length x.wc)).setCell ⟨w.heap.size, 4, none⟩ (.slice x.pa x.r.sig.path.length x.pc)) := below_duo (HB.out.trans (hb2.mono (by omega))) (Duo.only (x := w.heap.size) ho7) (Nat.le_refl _) (Nat.le_refl _)
  have hsz : ((((((w2).setCell ⟨w.heap.size, 0, none⟩ (.int .u64 (x.r.l : Int))).setCell ⟨w.heap.size, 1, none⟩ (.bool x.r.signed)).setCell ⟨w.heap.size, 2, none⟩ (.int .u64 (x.r.sig.index : Int))).setCell ⟨w.heap.size, 3, none⟩ (.slice x.wa x.r.sig.wots.length x.wc)).setCell ⟨w.heap.size, 4, none⟩ (.slice x.pa x.r.sig.path.length x.pc)).heap.size = w2.heap.size := by simp
  generalize (((((w2).setCell ⟨w.heap.size, 0, none⟩ (.int .u64 (x.r.l : Int))).setCell ⟨w.heap.size, 1, none⟩ (.bool x.r.signed)).setCell ⟨w.heap.size, 2, none⟩ (.int .u64 (x.r.sig.index : Int))).setCell ⟨w.heap.size, 3, none⟩ (.slice x.wa x.r.sig.wots.length x.wc)).setCell ⟨w.heap.size, 4, none⟩ (.slice x.pa x.r.sig.path.length x.pc) = w7 at *
  have z0 := (lit_cell hx7 0).trans rfl; have z1 := (lit_cell hx7 1).trans rfl; have z2 := (lit_cell hx7 2).trans rfl; have z3 := (lit_cell hx7 3).trans rfl; have z4 := (lit_cell hx7 4).trans rfl
  refine bodyPost_ret (v := .tuple #[slotV x, v]) (by simp [results, Tryz.results40, go_sem, z0, z1, z2, z3, z4]) rfl (hA w w7 (by omega) (fun k hk => ?_) (by omega) hd7)
  by_cases hl : k < w2.heap.size
  · exact ho7.block k hl (by omega)
  · rw [Array.getElem?_eq_none (xs := w7.heap) (by rw [hsz]; omega), Array.getElem?_eq_none (xs := w2.heap) (by omega)]
end Go.Proofs.YtlhmmplkdjibkaaGreatDoor
