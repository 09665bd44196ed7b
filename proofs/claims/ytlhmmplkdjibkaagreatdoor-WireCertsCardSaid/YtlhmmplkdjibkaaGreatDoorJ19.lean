/- Layer 7's things that came in by value: a participant, a turn, a message beside a header, a slot. -/
import Derived.Test.YtlhmmplkdjibkaaGreatDoorJ18
import Derived.Test.YtlhmmplkdjibkaaGreatDoorJ16
import Derived.Test.YtlhmmplkdjibkaaGreatDoorJ2
import Derived.Test.YtlhmmplkdjibkaaGreatDoorJ9
import Derived.Test.YtlhmmplkdjibkaaGreatDoorJ6
import Derived.WalkLawsBesides
import Derived.Test.YtlhmmplkdjibkaaGreatDoorJ17
import Derived.Laws.AppendOwnNone
namespace Go.Proofs.YtlhmmplkdjibkaaGreatDoor
open Go.ChangeShapes Go.WideShapes Go.ChangeAt Go.RowKit

theorem ocells_u16 : Tryz.prog.cellsOf 28 = 1 := by kernel_rfl
theorem ocells_u8 : Tryz.prog.cellsOf 5 = 1 := by kernel_rfl
theorem ocells_i : Tryz.prog.cellsOf 3 = 1 := by kernel_rfl
theorem ocells_turn : Tryz.prog.cellsOf 30 = 3 := by kernel_rfl
section
variable {H : Type} {enc : TypeId × Value → H} {W : World} {base : Nat} {spare : Nat → Bool} {held : Bool} {fuel : Nat} {cs : List Value} {y : DataW H × List MemPlace}
theorem inner_turn (h : DataW.trod enc Tryz.prog W base spare held fuel 30 cs = some y) : ∃ (a b : Nat) (s : Int), cs = [.int .u16 (a : Int), .int .u8 (b : Int), .int .i64 s] ∧ a < 65536 ∧ b < 256 := by
  obtain ⟨xs, m, _, rfl, hcl, hl, hy⟩ := DataW.trod_struct Tryz.underlying30 h
  rw [ocells_turn] at hcl
  obtain ⟨c0, c1, c2, rfl⟩ := olist3 cs hcl
  obtain ⟨y0, y1, y2, rfl⟩ := olist3 xs hl
  obtain ⟨n0, e0, _, w0⟩ := DataW.trod_int Tryz.underlying28 (hy 0 _ rfl)
  obtain ⟨n1, e1, _, w1⟩ := DataW.trod_int Tryz.underlying5 (hy 1 _ rfl)
  obtain ⟨n2, e2, _, w2⟩ := DataW.trod_int Tryz.underlying3 (hy 2 _ rfl)
  simp [ocells_u16, ocells_u8, ocells_i] at e0 e1 e2
  subst e0 e1 e2
  have b0 := bounds_u16 w0
  have b1 := bounds_u8 w1
  obtain ⟨a, rfl⟩ := Int.eq_ofNat_of_zero_le b0.1
  obtain ⟨b, rfl⟩ := Int.eq_ofNat_of_zero_le b1.1
  exact ⟨a, b, n2, rfl, by omega, by omega⟩
end
set_option maxRecDepth 100000 in
theorem open_turn {H : Type} {enc : TypeId × Value → H} {W : World} {base : Nat} {v : Value} {dv : DataW H} {p : List MemPlace} (hv : Value.okWide Tryz.prog W .any base 30 v)
    (h : DataW.Trod enc Tryz.prog W 0 (fun _ => true) true 30 v dv p) : ∃ (a b : Nat) (s : Int), v = .agg #[.int .u16 (a : Int), .int .u8 (b : Int), .int .i64 s] ∧ a < 65536 ∧ b < 256 := by
  obtain ⟨cs, rfl, hsz⟩ := okWide_struct Tryz.underlying30 hv
  obtain ⟨l⟩ := cs
  obtain ⟨fuel, hf⟩ := h
  obtain ⟨a, b, s, e0, h1, h2⟩ := inner_turn hf
  have e1 : l = [.int .u16 (a : Int), .int .u8 (b : Int), .int .i64 s] := e0
  subst e1
  exact ⟨a, b, s, rfl, h1, h2⟩
end Go.Proofs.YtlhmmplkdjibkaaGreatDoor
/- The document's reading, as plain functions of the bytes: a cursor's states, a map pair by pair. -/
namespace Go.Proofs.YtlhmmplkdjibkaaGreatDoor
open Go.RowKit

/-- a cursor: its place, or its first fault -/
abbrev St := Except Flt Nat
/-- what is read there, and where that ends -/
def runS {α : Type} (S : (List UInt8)) (g : (List UInt8) → Nat → Res α) : St → Except Flt (α × Nat)
  | .error f => .error f
  | .ok a => match g (S.drop a) a with
    | .error f => .error f
    | .ok (x, k) => .ok (x, a + k)
def endS {α : Type} : Except Flt (α × Nat) → St
  | .error f => .error f
  | .ok (_, a) => .ok a
def failS (b : Bool) (c : Nat) : St → St
  | .error f => .error f
  | .ok a => if b then .error (c, 0) else .ok a
def badS : St → Bool
  | .error _ => true
  | .ok _ => false
/-- if it was read, it is x -/
def Got {α : Type} (r : Except Flt (α × Nat)) (x : α) : Prop := ∀ y a, r = .ok (y, a) → x = y
theorem Got.error {α : Type} (f : Flt) (x : α) : Got (.error f) x := fun _ _ h => by cases h
theorem Got.ok {α : Type} (x : α) (a : Nat) : Got (.ok (x, a)) x := fun _ _ h => by cases h; rfl
theorem Got.is {α : Type} {x y : α} {a : Nat} (h : Got (.ok (y, a)) x) : x = y := h y a rfl

def headG (s m : Nat) (left : (List UInt8)) (a : Nat) : Res Nat := match takeE s left a with
  | .error f => .error f
  | .ok ((n, _), k) => if m < n then .error (3, 0) else if n = 0 then .error (5, 0) else .ok (n, k)
def sizeG (left : (List UInt8)) (a : Nat) : Res Nat := match takeE 4 left a with
  | .error f => .error f
  | .ok ((n, _), k) => .ok (n, k)

section
variable (S : (List UInt8)) (st : St) (n : Nat) (t : (List UInt8))
theorem num_run (h : Got (runS S (takeE 0) st) (n, t)) : failS (n == 0) 5 (endS (runS S (takeE 0) st)) = endS (runS S numG st) ∧ Got (runS S numG st) n := by
  cases st with
  | error f => exact ⟨rfl, Got.error _ _⟩
  | ok a =>
    unfold runS numG at *
    simp only at h ⊢
    cases he : takeE 0 (S.drop a) a with
    | error f => exact ⟨rfl, Got.error _ _⟩
    | ok p =>
      obtain ⟨⟨m, u⟩, k⟩ := p
      rw [he] at h
      cases h.is
      by_cases h0 : n = 0
      · subst h0; exact ⟨rfl, Got.error _ _⟩
      · have h1 : (n == 0) = false := by simpa using h0
        simp only [if_neg h0, h1]
        exact ⟨rfl, Got.ok _ _⟩
theorem any_run (h : Got (runS S (takeE 0) st) (n, t)) : endS (runS S (takeE 0) st) = endS (runS S anyG st) ∧ Got (runS S anyG st) n := by
  cases st with
  | error f => exact ⟨rfl, Got.error _ _⟩
  | ok a =>
    unfold runS anyG at *
    simp only at h ⊢
    cases he : takeE 0 (S.drop a) a with
    | error f => exact ⟨rfl, Got.error _ _⟩
    | ok p =>
      obtain ⟨⟨m, u⟩, k⟩ := p
      rw [he] at h
      cases h.is
      exact ⟨rfl, Got.ok _ _⟩
theorem yes_run (h : Got (runS S (takeE 0) st) (n, t)) : failS (!(n == 1)) 5 (endS (runS S (takeE 0) st)) = endS (runS S yesG st) ∧ Got (runS S yesG st) true := by
  cases st with
  | error f => exact ⟨rfl, Got.error _ _⟩
  | ok a =>
    unfold runS yesG at *
    simp only at h ⊢
    cases he : takeE 0 (S.drop a) a with
    | error f => exact ⟨rfl, Got.error _ _⟩
    | ok p =>
      obtain ⟨⟨m, u⟩, k⟩ := p
      rw [he] at h
      cases h.is
      by_cases h0 : n = 1
      · subst h0; exact ⟨rfl, Got.ok _ _⟩
      · have h1 : (n == 1) = false := by simpa using h0
        simp only [if_neg h0, h1]
        exact ⟨rfl, Got.error _ _⟩
theorem dig_run (h : Got (runS S (takeE 1) st) (n, t)) : failS (!digB t) 5 (endS (runS S (takeE 1) st)) = endS (runS S digG st) ∧ Got (runS S digG st) t := by
  cases st with
  | error f => exact ⟨rfl, Got.error _ _⟩
  | ok a =>
    unfold runS digG at *
    simp only at h ⊢
    cases he : takeE 1 (S.drop a) a with
    | error f => exact ⟨rfl, Got.error _ _⟩
    | ok p =>
      obtain ⟨⟨m, u⟩, k⟩ := p
      rw [he] at h
      cases h.is
      cases hd : digB t with
      | true => simp only [hd, if_true]; exact ⟨rfl, Got.ok _ _⟩
      | false => simp only [hd]; exact ⟨rfl, Got.error _ _⟩
theorem head_run (m : Nat) (h : Got (runS S (takeE 3) st) (n, t)) : failS (n == 0) 5 (failS (decide (m < n)) 3 (endS (runS S (takeE 3) st))) = endS (runS S (headG 3 m) st) ∧ Got (runS S (headG 3 m) st) n := by
  cases st with
  | error f => exact ⟨rfl, Got.error _ _⟩
  | ok a =>
    unfold runS headG at *
    simp only at h ⊢
    cases he : takeE 3 (S.drop a) a with
    | error f => exact ⟨rfl, Got.error _ _⟩
    | ok p =>
      obtain ⟨⟨m2, u⟩, k⟩ := p
      rw [he] at h
      cases h.is
      by_cases h1 : m < n
      · simp only [if_pos h1, decide_eq_true h1]; exact ⟨rfl, Got.error _ _⟩
      · simp only [if_neg h1, decide_eq_false h1]
        by_cases h0 : n = 0
        · subst h0; exact ⟨rfl, Got.error _ _⟩
        · have h2 : (n == 0) = false := by simpa using h0
          simp only [if_neg h0, h2]
          exact ⟨rfl, Got.ok _ _⟩
theorem size_run (h : Got (runS S (takeE 4) st) (n, t)) : endS (runS S (takeE 4) st) = endS (runS S sizeG st) ∧ Got (runS S sizeG st) n := by
  cases st with
  | error f => exact ⟨rfl, Got.error _ _⟩
  | ok a =>
    unfold runS sizeG at *
    simp only at h ⊢
    cases he : takeE 4 (S.drop a) a with
    | error f => exact ⟨rfl, Got.error _ _⟩
    | ok p =>
      obtain ⟨⟨m2, u⟩, k⟩ := p
      rw [he] at h
      cases h.is
      exact ⟨rfl, Got.ok _ _⟩
end

/-- one behind the other -/
def thenS {α β γ : Type} (S : (List UInt8)) (r : Except Flt (α × Nat)) (g : α → (List UInt8) → Nat → Res β) (f : α → β → γ) : Except Flt (γ × Nat) := match r with
  | .error e => .error e
  | .ok (x, a) => match runS S (g x) (.ok a) with
    | .error e => .error e
    | .ok (y, b) => .ok (f x y, b)
theorem list_run {α : Type} (S : (List UInt8)) (m : Nat) (g : (List UInt8) → Nat → Res α) (st : St) : runS S (listG m g) st = thenS S (runS S (headG 3 m) st) (fun n => manyG g n) (fun _ l => l) := by
  cases st with
  | error f => rfl
  | ok a =>
    unfold runS thenS listG headG
    simp only
    cases he : takeE 3 (S.drop a) a with
    | error f => rfl
    | ok p =>
      obtain ⟨⟨n, u⟩, k⟩ := p
      simp only
      by_cases h1 : m < n
      · simp only [if_pos h1]
      · simp only [if_neg h1]
        by_cases h0 : n = 0
        · simp only [if_pos h0]
        · simp only [if_neg h0, runS, List.drop_drop]
          cases manyG g n (S.drop (a + k)) (a + k) with
          | error f => rfl
          | ok q => obtain ⟨l, k2⟩ := q; simp only [Nat.add_assoc]
/-- a list, of which i are there -/
def LInv {α : Type} (S : (List UInt8)) (g : (List UInt8) → Nat → Res α) (tot : Except Flt (List α × Nat)) (n : Nat) (L : List α) (st : St) : Prop := match st with
  | .error f => tot = .error f
  | .ok a => tot = match runS S (manyG g n) (.ok a) with
    | .error f => .error f
    | .ok (l, b) => .ok (L ++ l, b)
theorem LInv.start {α : Type} (S : (List UInt8)) (m : Nat) (g : (List UInt8) → Nat → Res α) (st : St) (n : Nat) (h : Got (runS S (headG 3 m) st) n) : LInv S g (runS S (listG m g) st) n [] (endS (runS S (headG 3 m) st)) := by
  rw [list_run]
  cases hr : runS S (headG 3 m) st with
  | error f => exact rfl
  | ok p =>
    obtain ⟨x, a⟩ := p
    rw [hr] at h
    cases h.is
    show thenS _ _ _ _ = _
    unfold thenS
    simp only [List.nil_append]
    cases runS S (manyG g n) (.ok a) with
    | error f => rfl
    | ok q => rfl
theorem LInv.step {α : Type} {S : (List UInt8)} {g : (List UInt8) → Nat → Res α} {tot : Except Flt (List α × Nat)} {n : Nat} {L : List α} {st : St} (h : LInv S g tot (n + 1) L st) (x : α) (hx : Got (runS S g st) x) : LInv S g tot n (L ++ [x]) (endS (runS S g st)) := by
  cases st with
  | error f => exact h
  | ok a =>
    have h : tot = _ := h
    simp only [runS, manyG] at h
    unfold runS at hx ⊢
    simp only at hx ⊢
    cases hg : g (S.drop a) a with
    | error f => rw [hg] at h; exact h
    | ok p =>
      obtain ⟨y, k⟩ := p
      rw [hg] at h hx
      cases hx.is
      show tot = _
      simp only [List.drop_drop] at h
      simp only [runS]
      rw [h]
      cases manyG g n (S.drop (a + k)) (a + k) with
      | error f => rfl
      | ok q => obtain ⟨l, k2⟩ := q; simp only [List.append_assoc, List.singleton_append, Nat.add_assoc]
theorem LInv.done {α : Type} {S : (List UInt8)} {g : (List UInt8) → Nat → Res α} {tot : Except Flt (List α × Nat)} {n : Nat} {L : List α} {st : St} (h : LInv S g tot n L st) (hn : n = 0 ∨ badS st = true) : endS tot = st ∧ Got tot L := by
  cases st with
  | error f => cases (show tot = _ from h); exact ⟨rfl, Got.error _ _⟩
  | ok a =>
    rcases hn with rfl | hn
    · have h : tot = _ := h
      simp only [runS, manyG, List.append_nil, Nat.add_zero] at h
      cases h
      exact ⟨rfl, Got.ok _ _⟩
    · cases hn

/-! a map, pair by pair -/
def isKey (A : List UInt8) (t : (List UInt8)) : Bool := A.any fun c => [c] == t
/-- the fields whose keys are above -/
def above {ρ : Type} (fs : List (Fld ρ)) (last : (List UInt8)) : List (Fld ρ) := fs.filter fun f => Op.bytesLess last [f.key]
def keyG (A : List UInt8) (last : (List UInt8)) (left : (List UInt8)) (a : Nat) : Res (List UInt8) := match takeE 2 left a with
  | .error f => .error f
  | .ok ((_, t), k) => if isKey A t && Op.bytesLess last t then .ok (t, k) else .error (5, 0)
theorem key_run (S : (List UInt8)) (st : St) (A : List UInt8) (last : (List UInt8)) (n : Nat) (t : (List UInt8)) (h : Got (runS S (takeE 2) st) (n, t)) :
    failS (!isKey A t || !Op.bytesLess last t) 5 (endS (runS S (takeE 2) st)) = endS (runS S (keyG A last) st) ∧ Got (runS S (keyG A last) st) t := by
  cases st with
  | error f => exact ⟨rfl, Got.error _ _⟩
  | ok a =>
    unfold runS keyG at *
    simp only at h ⊢
    cases he : takeE 2 (S.drop a) a with
    | error f => exact ⟨rfl, Got.error _ _⟩
    | ok p =>
      obtain ⟨⟨m, u⟩, k⟩ := p
      rw [he] at h
      cases h.is
      simp only
      cases isKey A t <;> cases Op.bytesLess last t
      · exact ⟨rfl, Got.error _ _⟩
      · exact ⟨rfl, Got.error _ _⟩
      · exact ⟨rfl, Got.error _ _⟩
      · exact ⟨rfl, Got.ok _ _⟩
theorem less1 (a b : UInt8) : Op.bytesLess [a] [b] = decide (a < b) := by
  rw [show Op.bytesLess [a] [b] = (decide (a < b) || (a == b && Op.bytesLess [] [])) from rfl, show Op.bytesLess [] [] = false from rfl, Bool.and_false, Bool.or_false]
theorem less0 (b : UInt8) : Op.bytesLess [] [b] = true := rfl
/-- the fields of a map rise -/
def Rising {ρ : Type} (fs : List (Fld ρ)) : Prop := fs.Pairwise fun f g => f.key < g.key
theorem Rising.tail {ρ : Type} {f : Fld ρ} {fs : List (Fld ρ)} (h : Rising (f :: fs)) : Rising fs := (List.pairwise_cons.1 h).2
theorem above_nil {ρ : Type} (fs : List (Fld ρ)) : above fs [] = fs := by
  unfold above
  rw [List.filter_eq_self]
  intro f _
  exact less0 _
theorem above_all {ρ : Type} {fs : List (Fld ρ)} {g : Fld ρ} (h : ∀ f ∈ fs, g.key < f.key) : above fs [g.key] = fs := by
  unfold above
  rw [List.filter_eq_self]
  intro f hf
  rw [less1]
  exact decide_eq_true (h f hf)
theorem seek_above {ρ : Type} (last : (List UInt8)) : ∀ (fs : List (Fld ρ)), Rising fs → ∀ g ∈ fs, Op.bytesLess last [g.key] = true → seek [g.key] (above fs last) = some (g, above fs [g.key])
  | [], _, g, hg, _ => by cases hg
  | f :: fs, hr, g, hg, hl => by
    have h1 := (List.pairwise_cons.1 hr).1
    rcases List.mem_cons.1 hg with rfl | hg
    · have e1 : above (g :: fs) last = g :: above fs last := by unfold above; rw [List.filter_cons, if_pos hl]
      have e2 : above (g :: fs) [g.key] = fs := by
        have e3 : above (g :: fs) [g.key] = above fs [g.key] := by
          unfold above; rw [List.filter_cons, if_neg]
          rw [less1, decide_eq_false (by rw [UInt8.lt_iff_toNat_lt]; omega)]; decide
        rw [e3, above_all h1]
      have e4 : above fs last = fs := by
        unfold above
        rw [List.filter_eq_self]
        intro x hx
        have h2 := h1 x hx
        match last, hl with
        | [], _ => exact less0 _
        | [a], hl =>
          rw [less1] at hl ⊢
          have := of_decide_eq_true hl
          exact decide_eq_true (UInt8.lt_trans this h2)
        | a :: b :: r, hl =>
          have e : ∀ y : UInt8, Op.bytesLess (a :: b :: r) [y] = (decide (a < y) || (a == y && false)) := fun y => rfl
          rw [e] at hl ⊢
          rw [Bool.and_false, Bool.or_false] at hl ⊢
          exact decide_eq_true (UInt8.lt_trans (of_decide_eq_true hl) h2)
      rw [e1, e2, e4]
      exact seek_hit g fs
    · have hlt := h1 g hg
      have ih := seek_above last fs hr.tail g hg hl
      have e2 : above (f :: fs) [g.key] = above fs [g.key] := by
        unfold above; rw [List.filter_cons, if_neg]
        rw [less1, decide_eq_false (by rw [UInt8.lt_iff_toNat_lt] at *; omega)]; decide
      rw [e2]
      unfold above at ih ⊢
      rw [List.filter_cons]
      split
      · rw [seek_skip]
        · exact ih
        · intro e
          have e2 : f.key = g.key := by simpa using e
          rw [e2, UInt8.lt_iff_toNat_lt] at hlt
          omega
      · exact ih
theorem seek_none {ρ : Type} (t : (List UInt8)) : ∀ (gs : List (Fld ρ)), (∀ g ∈ gs, [g.key] ≠ t) → seek t gs = none
  | [], _ => rfl
  | g :: gs, h => by
    rw [seek_skip t g gs (h g (by simp))]
    exact seek_none t gs (fun x hx => h x (by simp [hx]))
theorem isKey_mem {ρ : Type} {fs : List (Fld ρ)} {t : (List UInt8)} (h : isKey (fs.map (·.key)) t = true) : ∃ g ∈ fs, [g.key] = t := by
  unfold isKey at h
  rw [List.any_eq_true] at h
  obtain ⟨c, hc, he⟩ := h
  obtain ⟨g, hg, rfl⟩ := List.mem_map.1 hc
  exact ⟨g, hg, by simpa using he⟩
theorem isKey_no {ρ : Type} {fs : List (Fld ρ)} {t : (List UInt8)} (h : isKey (fs.map (·.key)) t = false) : ∀ g ∈ fs, [g.key] ≠ t := by
  intro g hg e
  unfold isKey at h
  rw [List.any_eq_false] at h
  exact h g.key (List.mem_map.2 ⟨g, hg, rfl⟩) (by simpa using e)

/-- n pairs are left, the last key, what there is so far -/
def PInv {ρ : Type} (S : (List UInt8)) (fs : List (Fld ρ)) (tot : Except Flt (ρ × Nat)) (n : Nat) (q : ρ) (last : (List UInt8)) (st : St) : Prop := match st with
  | .error f => tot = .error f
  | .ok a => tot = runS S (pairsG n (above fs last) q) (.ok a)
/-- behind a key -/
def KInv {ρ : Type} (S : (List UInt8)) (fs : List (Fld ρ)) (tot : Except Flt (ρ × Nat)) (n : Nat) (q : ρ) (t : (List UInt8)) (st : St) : Prop := match st with
  | .error f => tot = .error f
  | .ok a => ∃ g ∈ fs, [g.key] = t ∧ tot = thenS S (runS S g.C.get (.ok a)) (fun v => pairsG n (above fs t) (g.set q v)) (fun _ p => p)
theorem PInv.key {ρ : Type} {S : (List UInt8)} {fs : List (Fld ρ)} {tot : Except Flt (ρ × Nat)} {n : Nat} {q : ρ} {last : (List UInt8)} {st : St} (h : PInv S fs tot (n + 1) q last st) (hr : Rising fs) (t : (List UInt8)) (ht : Got (runS S (keyG (fs.map (·.key)) last) st) t) :
    KInv S fs tot n q t (endS (runS S (keyG (fs.map (·.key)) last) st)) := by
  cases st with
  | error f => exact h
  | ok a =>
    have h : tot = _ := h
    simp only [runS, pairsG] at h
    unfold runS keyG at ht ⊢
    simp only at ht ⊢
    cases he : takeE 2 (S.drop a) a with
    | error f => rw [he] at h; exact h
    | ok p =>
      obtain ⟨⟨m, u⟩, k⟩ := p
      rw [he] at h ht
      simp only at h ht ⊢
      cases hk : isKey (fs.map (·.key)) u with
      | false =>
        rw [seek_none u (above fs last) (fun g hg => isKey_no hk g (List.mem_filter.1 hg).1)] at h
        exact h
      | true =>
        obtain ⟨g, hg, rfl⟩ := isKey_mem hk
        cases hl : Op.bytesLess last [g.key] with
        | false =>
          rw [seek_none [g.key] (above fs last) (fun x hx e => by
            obtain ⟨_, h2⟩ := List.mem_filter.1 hx
            rw [e, hl] at h2
            cases h2)] at h
          exact h
        | true =>
          rw [seek_above last fs hr g hg hl] at h
          rw [hk, hl] at ht
          cases ht.is
          refine ⟨g, hg, rfl, ?_⟩
          rw [h]
          unfold thenS runS
          simp only [List.drop_drop]
          cases g.C.get (S.drop (a + k)) (a + k) with
          | error f => rfl
          | ok p =>
            obtain ⟨v, k2⟩ := p
            simp only [Nat.add_assoc]
            cases pairsG n (above fs [g.key]) (g.set q v) (S.drop (a + (k + k2))) (a + (k + k2)) with
            | error f => rfl
            | ok p => rfl
theorem KInv.arm {ρ : Type} {S : (List UInt8)} {fs : List (Fld ρ)} {tot : Except Flt (ρ × Nat)} {n : Nat} {q : ρ} {st : St} (g : Fld ρ) (h : KInv S fs tot n q [g.key] st) (hr : Rising fs) (hg : g ∈ fs) (x : g.β) (hx : Got (runS S g.C.get st) x) :
    PInv S fs tot n (g.set q x) [g.key] (endS (runS S g.C.get st)) := by
  cases st with
  | error f => exact h
  | ok a =>
    obtain ⟨g2, hg2, he, h⟩ := h
    have hgg : g2 = g := by
      have hk : g2.key = g.key := by simpa using he
      clear h hx
      induction fs with
      | nil => cases hg
      | cons f fs ih =>
        have h1 := (List.pairwise_cons.1 hr).1
        rcases List.mem_cons.1 hg with e1 | hga <;> rcases List.mem_cons.1 hg2 with e2 | hgb
        · rw [e1, e2]
        · have := h1 g2 hgb; rw [hk, e1, UInt8.lt_iff_toNat_lt] at this; omega
        · have := h1 g hga; rw [← e2, hk, UInt8.lt_iff_toNat_lt] at this; omega
        · exact ih hr.tail hga hgb
    subst hgg
    cases hx2 : runS S g2.C.get (.ok a) with
    | error f => rw [hx2] at h; exact h
    | ok p =>
      obtain ⟨v, b⟩ := p
      rw [hx2] at h hx
      cases hx.is
      show tot = _
      rw [h]
      unfold thenS
      simp only
      cases runS S (pairsG n (above fs [g2.key]) (g2.set q x)) (.ok b) with
      | error f => rfl
      | ok p => rfl
theorem KInv.none {ρ : Type} {S : (List UInt8)} {fs : List (Fld ρ)} {tot : Except Flt (ρ × Nat)} {n : Nat} {q : ρ} {t : (List UInt8)} {st : St} (h : KInv S fs tot n q t st) (ht : ∀ g ∈ fs, [g.key] ≠ t) (m : Nat) (p : ρ) (u : (List UInt8)) : PInv S fs tot m p u st := by
  cases st with
  | error f => exact h
  | ok a => obtain ⟨g, hg, he, _⟩ := h; exact absurd he (ht g hg)
theorem PInv.done {ρ : Type} {S : (List UInt8)} {fs : List (Fld ρ)} {tot : Except Flt (ρ × Nat)} {n : Nat} {q : ρ} {last : (List UInt8)} {st : St} (h : PInv S fs tot n q last st) (hn : n = 0 ∨ badS st = true) : endS tot = st ∧ Got tot q := by
  cases st with
  | error f => cases (show tot = _ from h); exact ⟨rfl, Got.error _ _⟩
  | ok a =>
    rcases hn with rfl | hn
    · have h : tot = _ := h
      simp only [runS, pairsG, Nat.add_zero] at h
      cases h
      exact ⟨rfl, Got.ok _ _⟩
    · cases hn
/-- all pairs of a map -/
def allS {ρ : Type} (S : (List UInt8)) (fs : List (Fld ρ)) (zero : ρ) (st : St) : Except Flt (ρ × Nat) := thenS S (runS S sizeG st) (fun n => pairsG n fs zero) (fun _ p => p)
theorem PInv.start {ρ : Type} (S : (List UInt8)) (fs : List (Fld ρ)) (zero : ρ) (st : St) (n : Nat) (h : Got (runS S sizeG st) n) : PInv S fs (allS S fs zero st) n zero [] (endS (runS S sizeG st)) := by
  unfold allS
  cases hr : runS S sizeG st with
  | error f => exact rfl
  | ok p =>
    obtain ⟨m, a⟩ := p
    rw [hr] at h
    cases h.is
    show _ = runS S (pairsG n (above fs []) zero) (.ok a)
    rw [above_nil]
    unfold thenS
    simp only
    cases runS S (pairsG n fs zero) (.ok a) with
    | error f => rfl
    | ok p => rfl
theorem map_run {ρ : Type} (S : (List UInt8)) (fs : List (Fld ρ)) (zero : ρ) (fin : ρ → Bool) (st : St) (q : ρ) (h : Got (allS S fs zero st) q) :
    failS (!fin q) 5 (endS (allS S fs zero st)) = endS (runS S (mapG fs zero fin) st) ∧ Got (runS S (mapG fs zero fin) st) q := by
  unfold allS at *
  cases st with
  | error f => exact ⟨rfl, Got.error _ _⟩
  | ok a =>
    unfold runS sizeG thenS mapG at *
    simp only at h ⊢
    cases he : takeE 4 (S.drop a) a with
    | error f => exact ⟨rfl, Got.error _ _⟩
    | ok p =>
      obtain ⟨⟨n, u⟩, k⟩ := p
      rw [he] at h
      simp only [runS, List.drop_drop] at h ⊢
      cases hp : pairsG n fs zero (S.drop (a + k)) (a + k) with
      | error f => exact ⟨rfl, Got.error _ _⟩
      | ok p =>
        obtain ⟨p, k2⟩ := p
        rw [hp] at h
        cases h.is
        simp only
        cases hf : fin q with
        | true => simp only [if_true, Nat.add_assoc]; exact ⟨rfl, Got.ok _ _⟩
        | false => exact ⟨rfl, Got.error _ _⟩
/-- a map that is a field, and is not nothing -/
theorem nz_run {α : Type} (S : (List UInt8)) (C : Codec α) (z : α → Bool) (st : St) (x : α) (h : Got (runS S C.get st) x) :
    failS (z x) 5 (endS (runS S C.get st)) = endS (runS S (nzC C z).get st) ∧ Got (runS S (nzC C z).get st) x := by
  cases st with
  | error f => exact ⟨rfl, Got.error _ _⟩
  | ok a =>
    unfold runS at *
    simp only [nzC] at h ⊢
    cases he : C.get (S.drop a) a with
    | error f => exact ⟨rfl, Got.error _ _⟩
    | ok p =>
      obtain ⟨y, k⟩ := p
      rw [he] at h
      cases h.is
      simp only
      cases hz : z x with
      | true => exact ⟨rfl, Got.error _ _⟩
      | false => exact ⟨rfl, Got.ok _ _⟩
/-- a thing, and nothing behind -/
def lastS (S : (List UInt8)) : St → Nat × Nat
  | .error f => f
  | .ok a => if a < S.length then (5, a) else (0, 0)
theorem whole_run {ρ : Type} (S : (List UInt8)) (g : (List UInt8) → Nat → Res ρ) (q : ρ) (h : Got (runS S g (.ok 0)) q) (hz : ∀ f, runS S g (.ok 0) = .error f → f.1 ≠ 0) : match wholeG g S with
    | .error f => lastS S (endS (runS S g (.ok 0))) = f ∧ f.1 ≠ 0
    | .ok p => p = q ∧ lastS S (endS (runS S g (.ok 0))) = (0, 0) := by
  unfold wholeG
  unfold runS at *
  simp only [List.drop_zero] at *
  cases hg : g S 0 with
  | error f => rw [hg] at hz; exact ⟨rfl, hz f rfl⟩
  | ok p =>
    obtain ⟨x, k⟩ := p
    rw [hg] at h
    cases h.is
    simp only [endS, lastS, Nat.zero_add]
    by_cases hk : k < S.length
    · simp [hk]
    · simp [hk]
end Go.Proofs.YtlhmmplkdjibkaaGreatDoor
/- The reference's cursor: bad, fail, take. -/
namespace Go.Proofs.YtlhmmplkdjibkaaGreatDoor
open Go.RowKit

def codeS : St → Nat
  | .error f => f.1
  | .ok _ => 0
def atS : St → Nat
  | .error f => f.2
  | .ok _ => 0
/-- a cursor in memory, and its reader -/
structure Curs (cb rb : Nat) (S : (List UInt8)) (st : St) (w : World) : Prop where
  c : w.heap[cb]? = some (.cells #[.pointer (some ⟨rb, 0, none⟩), .int .i64 (codeS st : Int), .int .i64 (atS st : Int)] 130 (0, 0))
  nz : ∀ f, st = .error f → f.1 ≠ 0
  r : ∃ a, RefAt rb S a 10240 w ∧ a ≤ S.length ∧ ∀ b, st = .ok b → b = a
  ne : cb ≠ rb
theorem Curs.lt {cb rb : Nat} {S : (List UInt8)} {st : St} {w : World} (h : Curs cb rb S st w) : cb < w.heap.size := lit_lt h.c
theorem Curs.rt {cb rb : Nat} {S : (List UInt8)} {st : St} {w : World} (h : Curs cb rb S st w) : rb < w.heap.size := by
  obtain ⟨a, h1, _⟩ := h.r
  exact lit_lt h1
theorem Curs.to {cb rb : Nat} {S : (List UInt8)} {st : St} {w w' : World} (h : Curs cb rb S st w) (h1 : w'.heap[cb]? = w.heap[cb]?) (h2 : w'.heap[rb]? = w.heap[rb]?) : Curs cb rb S st w' := by
  obtain ⟨a, r1, r2, r3⟩ := h.r
  exact ⟨h1.trans h.c, h.nz, ⟨a, h2.trans r1, r2, r3⟩, h.ne⟩
theorem Curs.next {cb rb : Nat} {S : (List UInt8)} {st : St} {w w' : World} (h : Curs cb rb S st w) (hb : Below w.heap.size w w') : Curs cb rb S st w' := h.to (hb.block _ h.lt) (hb.block _ h.rt)
theorem Curs.only {cb rb X : Nat} {S : (List UInt8)} {st : St} {w w' : World} (h : Curs cb rb S st w) (hb : Only X w w') (h1 : cb ≠ X) (h2 : rb ≠ X) : Curs cb rb S st w' := h.to (hb.block _ h.lt h1) (hb.block _ h.rt h2)

set_option maxRecDepth 100000 in
theorem bad_any {cb rb : Nat} {S : (List UInt8)} {st : St} {w : World} (h : Curs cb rb S st w) :
    Calls Tryz.prog 64 #[.pointer (some ⟨cb, 0, none⟩)] w fun e w' => e = .returned (.bool (badS st)) ∧ w' = w := by
  have c1 := (lit_cell h.c 1).trans rfl
  have hn := h.nz
  clear h
  cases st with
  | error f =>
    have h0 := hn f rfl
    simp only [codeS] at c1
    have i0 : ((f.1 : Int) != 0) = true := by rw [bne_iff_ne]; omega
    have i1 : ((f.1 : Int) == 0) = false := by rw [beq_eq_false_iff_ne]; omega
    generalize (f.1 : Int) = F at *
    clear hn h0
    go_enter Tryz.func64, Tryz.ntmps64
    go_wp2
    go_ret
    exact ⟨by simp [badS], rfl⟩
  | ok a =>
    simp only [codeS] at c1
    clear hn
    go_enter Tryz.func64, Tryz.ntmps64
    go_wp2
    go_ret
    exact ⟨rfl, rfl⟩
set_option maxRecDepth 100000 in
theorem fail_any {cb rb : Nat} {S : (List UInt8)} {st : St} {w : World} (b : Bool) (c : Nat) (hc : c ≠ 0) (h : Curs cb rb S st w) :
    Calls Tryz.prog 72 #[.pointer (some ⟨cb, 0, none⟩), .bool b, .int .i64 (c : Int)] w fun e w' => e = .returned (.tuple #[]) ∧ Curs cb rb S (failS b c st) w' ∧ Only cb w w' := by
  have HB := Lib.hid (bad_any h)
  have H := Lib.hid h
  have c0 := (lit_cell h.c 0).trans rfl
  have c1 := (lit_cell h.c 1).trans rfl
  have c2 := (lit_cell h.c 2).trans rfl
  have f1 := lit_free h.c 1
  have f2 := lit_free h.c 2
  have HN := Lib.hid hc
  clear h hc
  cases b with
  | false =>
    have HE := Lib.hid (show failS false c st = st by cases st <;> rfl)
    rw [HE.out]
    go_enter Tryz.func72, Tryz.ntmps72
    go_wp2
    refine bodyPost_end (results_none rfl _ _ _) rfl ⟨rfl, H.out, Only.refl _ _⟩
  | true =>
    cases st with
    | error f =>
      go_enter Tryz.func72, Tryz.ntmps72
      go_wp2_with (go_at_call 64; refine HB.out.mono ?_; rintro e w1 ⟨rfl, rfl⟩)
      refine bodyPost_end (results_none rfl _ _ _) rfl ⟨rfl, H.out, Only.refl _ _⟩
    | ok a =>
      go_enter Tryz.func72, Tryz.ntmps72
      go_wp2_with (go_at_call 64; refine HB.out.mono ?_; rintro e w1 ⟨rfl, rfl⟩)
      obtain ⟨p, r1, r2, r3⟩ := H.out.r
      have hne := H.out.ne
      have ho := (Only.set cb 1 (.int .i64 (c : Int)) w1).trans (Only.set cb 2 (.int .i64 0) _)
      refine bodyPost_end (results_none rfl _ _ _) rfl ⟨rfl, ⟨(lit_set _ (lit_set _ H.out.c)).trans rfl, ?_, ⟨p, (ho.block rb H.out.rt hne.symm).trans r1, r2, fun b hb => by cases hb⟩, hne⟩, ho⟩
      intro f hf
      cases hf
      exact HN.out

/-- what take answers and leaves -/
structure CTook (cb rb : Nat) (S : (List UInt8)) (st : St) (s n : Nat) (t : (List UInt8)) (w w' : World) : Prop where
  g : Got (runS S (takeE s) st) (n, t)
  b : n < 18446744073709551616
  b16 : s ≠ 0 → n < 65536
  t : t.length ≤ S.length
  c : Curs cb rb S (endS (runS S (takeE s) st)) w'
  o : Duo cb rb w w'
set_option maxRecDepth 100000 in
set_option maxHeartbeats 1000000 in
theorem take_any {cb rb : Nat} {S : (List UInt8)} {st : St} {w : World} (s : Nat) (hs : s ≤ 4) (hS : S.length ≤ 1000000) (h : Curs cb rb S st w) :
    Calls Tryz.prog 69 #[.pointer (some ⟨cb, 0, none⟩), .int .i64 (s : Int)] w fun e w' => ∃ (n : Nat) (t : (List UInt8)), e = .returned (.tuple #[.int .u64 (n : Int), .string ⟨t.toArray⟩]) ∧ Hid (CTook cb rb S st s n t w w') := by
  have HB := Lib.hid (bad_any h)
  have H := Lib.hid h
  cases st with
  | error f =>
    clear h hs hS
    go_enter Tryz.func69, Tryz.ntmps69
    go_wp2_with (go_at_call 64; refine HB.out.mono ?_; rintro e w1 ⟨rfl, rfl⟩)
    refine bodyPost_ret (v := .tuple #[.int .u64 0, .string ⟨#[]⟩]) (by simp [results, Tryz.results69, go_sem]) rfl ⟨0, [], rfl, Lib.hid ⟨Got.error _ _, by decide, (fun _ => by decide), Nat.zero_le _, H.out, Duo.refl _ _ _⟩⟩
  | ok a =>
    obtain ⟨p, r1, r2, r3⟩ := h.r
    obtain rfl := r3 a rfl
    have HT := Lib.hid (refTake_any rb S a 10240 s w hs (by omega) r2 (by decide) r1)
    have hf := takeP_fits (S.drop a) 10240 s
    have hrun : runS S (takeE s) (.ok a) = if (takeP (S.drop a) 10240 s).c = 0 then .ok (((takeP (S.drop a) 10240 s).n, (takeP (S.drop a) 10240 s).t), a + (takeP (S.drop a) 10240 s).m) else .error ((takeP (S.drop a) 10240 s).c, a) := by
      unfold runS takeE
      simp only
      by_cases hc : (takeP (S.drop a) 10240 s).c = 0
      · rw [if_pos hc, if_pos hc]
      · rw [if_neg hc, if_neg hc]
    have HRUN := Lib.hid hrun
    have hm := hf.ml
    have htl := hf.tl
    rw [List.length_drop] at hm htl
    have HF := Lib.hid (And.intro hf.n64 (And.intro (show (takeP (S.drop a) 10240 s).t.length ≤ S.length by omega) (And.intro hf.bad (And.intro hf.n16 (show a + (takeP (S.drop a) 10240 s).m ≤ S.length by omega)))))
    have c0 := (lit_cell h.c 0).trans rfl
    clear r1 r2 r3 hf hrun hm htl hs hS
    generalize takeP (S.drop a) 10240 s = P at *
    have hcb := h.lt
    have hne := h.ne
    have HC := Lib.hid h.c
    have HL := Lib.hid (And.intro hcb hne)
    clear h hcb hne
    go_enter Tryz.func69, Tryz.ntmps69
    go_upto_region 4 with (first | (go_at_call 64; refine HB.out.mono ?_; rintro e w1 ⟨rfl, rfl⟩) | (go_at_call 124; refine HT.out.mono ?_; rintro e w2 ⟨rfl, hr, ho⟩))
    have hC2 := (ho.block cb HL.out.1 HL.out.2).trans HC.out
    have HR := Lib.hid hr
    have HO := Lib.hid ho
    by_cases hc : P.c = 0
    · have HC0 := Lib.hid hc
      have hcf : ((P.c : Int) != 0) = false := by simp [hc]
      have hcf2 : ((P.c : Int) == 0) = true := by simp [hc]
      have HC2 := Lib.hid hC2
      clear hC2 hr ho c0
      have HQ := Lib.hid (show ∃ (n : Nat) (t : (List UInt8)), P.n = n ∧ P.t = t from ⟨_, _, rfl, rfl⟩)
      go_wp2
      have e := HRUN.out
      rw [if_pos HC0.out] at e
      refine bodyPost_ret (v := .tuple #[.int .u64 (P.n : Int), .string ⟨P.t.toArray⟩]) (by simp [results, Tryz.results69, go_sem]) rfl ⟨P.n, P.t, rfl, Lib.hid ⟨by rw [e]; exact Got.ok _ _, HF.out.1, HF.out.2.2.2.1, HF.out.2.1, by rw [e]; exact ⟨HC2.out, (fun f hf => by cases hf), ⟨_, HR.out, HF.out.2.2.2.2, (fun b hb => by cases hb; rfl)⟩, HL.out.2⟩, Duo.only2 HO.out⟩⟩
    · have HC0 := Lib.hid hc
      have hcf : ((P.c : Int) != 0) = true := by rw [bne_iff_ne]; omega
      have hcf2 : ((P.c : Int) == 0) = false := by rw [beq_eq_false_iff_ne]; omega
      have hm0 := (HF.out.2.2.1 hc).1
      rw [hm0, Nat.add_zero] at hr HR
      have d0 := (lit_cell hC2 0).trans rfl
      have d1 := (lit_cell hC2 1).trans rfl
      have d2 := (lit_cell hC2 2).trans rfl
      have g1 := lit_free hC2 1
      have g2 := lit_free hC2 2
      have e1 := (lit_cell hr 1).trans rfl
      have HC2 := Lib.hid hC2
      have HM0 := Lib.hid hm0
      clear hC2 hr ho c0 hc hm0
      go_wp2
      have e := HRUN.out
      rw [if_neg HC0.out] at e
      have ho2 := (Only.set cb 1 (.int .i64 (P.c : Int)) w2).trans (Only.set cb 2 (.int .i64 (a : Int)) _)
      have hrt : rb < w2.heap.size := lit_lt HR.out
      refine bodyPost_ret (v := .tuple #[.int .u64 0, .string ⟨#[]⟩]) (by simp [results, Tryz.results69, go_sem]) rfl ⟨0, [], rfl, Lib.hid ⟨by rw [e]; exact Got.error _ _, by decide, (fun _ => by decide), Nat.zero_le _, ?_, (Duo.only2 HO.out).trans (Duo.only ho2)⟩⟩
      rw [e]
      refine ⟨(lit_set _ (lit_set _ HC2.out)).trans rfl, (fun f hf => by cases hf; exact HC0.out), ⟨a, (ho2.block rb hrt HL.out.2.symm).trans HR.out, by have := HF.out.2.2.2.2; omega, fun b hb => by cases hb⟩, HL.out.2⟩
end Go.Proofs.YtlhmmplkdjibkaaGreatDoor
/- The reference's leaves of laying: put, whole, num, bin, head, small, digest. -/
namespace Go.Proofs.YtlhmmplkdjibkaaGreatDoor
open Go.RowKit

theorem laid0_eq (n : Nat) : laidP 0 n [] = (numP n, 0) := rfl
theorem laid1_eq (s : (List UInt8)) (h : s.length < 65536) : laidP 1 0 s = (binP s, 0) := by rw [laidP, if_neg (by decide), if_pos (by decide), if_neg (by omega)]; rfl
theorem laid2_eq (c : UInt8) : laidP 2 0 [c] = ([161, c], 0) := rfl
theorem laid3_eq (n : Nat) (h : n < 65536) : laidP 3 n [] = (headP 3 n, 0) := by rw [laidP, if_neg (by decide), if_neg (by decide), if_neg (by omega), if_neg (by omega)]
theorem laid4_eq (n : Nat) (h : n < 65536) : laidP 4 n [] = (headP 4 n, 0) := by rw [laidP, if_neg (by decide), if_neg (by decide), if_neg (by omega), if_neg (by omega)]
theorem prs_length (fs : List (UInt8 × (List UInt8))) : (prs fs).length ≤ fs.length := List.length_filter_le _ _

set_option maxRecDepth 100000 in
theorem wnum_any (n : Nat) (w : World) (hn : n < 18446744073709551616) :
    Calls Tryz.prog 26 #[.int .u64 (n : Int)] w fun e w' => e = .returned (.string ⟨(numZ n).toArray⟩) ∧ Below w.heap.size w w' := by
  by_cases h0 : n = 0
  · subst h0
    have HE := Lib.hid (show numZ 0 = [] from rfl)
    rw [HE.out]
    go_enter Tryz.func26, Tryz.ntmps26
    go_wp2
    go_ret
    exact ⟨rfl, Below.refl _ _⟩
  · have HL := pLaid_any 0 n [] w hn (by decide)
    rw [laid0_eq] at HL
    have HL := Lib.hid HL
    have HE := Lib.hid (show numZ n = numP n from if_neg h0)
    rw [HE.out]
    have i0 : ((n : Int) == 0) = false := by rw [beq_eq_false_iff_ne]; omega
    clear h0 hn
    go_enter Tryz.func26, Tryz.ntmps26
    go_wp2_with (go_at_call 24; refine HL.out.mono ?_; rintro e w1 ⟨rfl, hb⟩)
    go_ret
    exact ⟨rfl, hb⟩
set_option maxRecDepth 100000 in
theorem wbin_any (s : (List UInt8)) (w : World) (hs : s.length < 65536) :
    Calls Tryz.prog 22 #[.string ⟨s.toArray⟩] w fun e w' => e = .returned (.string ⟨(binP s).toArray⟩) ∧ Below w.heap.size w w' := by
  have HL := pLaid_any 1 0 s w (by decide) (by omega)
  rw [laid1_eq s hs] at HL
  have HL := Lib.hid HL
  clear hs
  go_enter Tryz.func22, Tryz.ntmps22
  go_wp2_with (go_at_call 24; refine HL.out.mono ?_; rintro e w1 ⟨rfl, hb⟩)
  go_ret
  exact ⟨rfl, hb⟩
set_option maxRecDepth 100000 in
theorem whead_any (n : Nat) (w : World) (hn : n < 65536) :
    Calls Tryz.prog 23 #[.int .i64 (n : Int)] w fun e w' => e = .returned (.string ⟨(headP 3 n).toArray⟩) ∧ Below w.heap.size w w' := by
  have HL := pLaid_any 3 n [] w (by omega) (by decide)
  rw [laid3_eq n hn] at HL
  have HL := Lib.hid HL
  have hw : IntKind.u64.wrap (n : Int) = (n : Int) := by simp [IntKind.wrap, IntKind.bits, IntKind.signed]; omega
  clear hn
  go_enter Tryz.func23, Tryz.ntmps23
  go_wp2_with (go_at_call 24; refine HL.out.mono ?_; rintro e w1 ⟨rfl, hb⟩)
  go_ret
  exact ⟨rfl, hb⟩
set_option maxRecDepth 100000 in
theorem wsmall_any (s : (List UInt8)) (w : World) :
    Calls Tryz.prog 56 #[.string ⟨s.toArray⟩] w fun e w' => e = .returned (.string ⟨(smallP s).toArray⟩) ∧ w' = w := by
  by_cases h : s = [128]
  · subst h
    have HE := Lib.hid (show smallP [128] = [] from rfl)
    rw [HE.out]
    go_enter Tryz.func56, Tryz.ntmps56
    go_wp2
    go_ret
    exact ⟨rfl, rfl⟩
  · have HE := Lib.hid (show smallP s = s from if_neg h)
    rw [HE.out]
    have hne : (s == [128]) = false := by rw [beq_eq_false_iff_ne]; exact h
    clear h
    go_enter Tryz.func56, Tryz.ntmps56
    go_wp2
    go_ret
    exact ⟨rfl, rfl⟩
set_option maxRecDepth 100000 in
theorem wdigest_any (s : (List UInt8)) (w : World) :
    Calls Tryz.prog 17 #[.string ⟨s.toArray⟩] w fun e w' => e = .returned (.bool (digB s)) ∧ w' = w := by
  by_cases h : s.length = 32
  · have HE := Lib.hid (show digB s = true by simp [digB, h])
    rw [HE.out]
    have i0 : (s.length : Int) = 32 := by omega
    clear h
    go_enter Tryz.func17, Tryz.ntmps17
    go_wp2
    go_ret
    exact ⟨rfl, rfl⟩
  · have HE := Lib.hid (show digB s = false by simp [digB, h])
    rw [HE.out]
    have i0 : ((s.length : Int) == 32) = false := by rw [beq_eq_false_iff_ne]; omega
    clear h
    go_enter Tryz.func17, Tryz.ntmps17
    go_wp2
    go_ret
    exact ⟨rfl, rfl⟩

/-- a map that is being laid: its pairs so far -/
def LayAt (b : Nat) (fs : List (UInt8 × (List UInt8))) (w : World) : Prop := w.heap[b]? = some (.cells #[.int .u64 ((prs fs).length : Int), .string ⟨(prsB fs).toArray⟩] 68 (0, 0))
set_option maxRecDepth 100000 in
theorem put_any (b : Nat) (fs : List (UInt8 × (List UInt8))) (c : UInt8) (v : (List UInt8)) (w : World) (h : LayAt b fs w) (h8 : fs.length < 100) (hB : (prsB fs).length ≤ 1000000000) (hv : v.length ≤ 1000000000) :
    Calls Tryz.prog 20 #[.pointer (some ⟨b, 0, none⟩), .string ⟨#[c]⟩, .string ⟨v.toArray⟩] w fun e w' => e = .returned (.tuple #[]) ∧ LayAt b (fs ++ [(c, v)]) w' ∧ Only b w w' := by
  have HLA := Lib.hid h
  by_cases hn : v = []
  · subst hn
    have HE : LayAt b (fs ++ [(c, [])]) w := by
      unfold LayAt
      rw [prs_snoc, prsB_snoc, if_pos rfl, if_pos rfl]
      exact h
    have HE := Lib.hid HE
    clear h
    go_enter Tryz.func20, Tryz.ntmps20
    go_wp2
    refine bodyPost_ret (v := .tuple #[]) (results_none rfl _ _ _) rfl ⟨rfl, HE.out, Only.refl _ _⟩
  · have hpl := prs_length fs
    have HS := Lib.hid (show prs (fs ++ [(c, v)]) = prs fs ++ [(c, v)] ∧ prsB (fs ++ [(c, v)]) = prsB fs ++ (161 :: c :: v) by rw [prs_snoc, prsB_snoc, if_neg hn, if_neg hn]; exact ⟨rfl, rfl⟩)
    have HLD := pLaid_any 2 0 [c] w (by decide) (by simp)
    rw [laid2_eq c] at HLD
    have HLD := Lib.hid HLD
    have hne : v.isEmpty = false := by simpa using hn
    have e1 := run_cat (prsB fs) [161, c] (by simp; omega)
    have e2 := run_cat (prsB fs ++ [161, c]) v (by simp; omega)
    have e3 : prsB fs ++ [161, c] ++ v = prsB fs ++ (161 :: c :: v) := by simp
    rw [e3] at e2
    unfold LayAt at HLA h ⊢
    rw [HS.out.1, HS.out.2, List.length_append, List.length_singleton]
    generalize (prs fs).length = N at *
    generalize prsB fs ++ (161 :: c :: v) = B2 at *
    generalize prsB fs ++ [161, c] = B1 at *
    generalize prsB fs = B at *
    clear hn hB hv e3
    have c0 := (lit_cell h 0).trans rfl
    have c1 := (lit_cell h 1).trans rfl
    have hbl := lit_lt h
    have hN : (N : Int) < 1000 := by omega
    clear h h8 hpl
    go_enter Tryz.func20, Tryz.ntmps20
    go_wp2_with (go_at_call 24; refine HLD.out.mono ?_; rintro e w1 ⟨rfl, hb⟩; have h1 := (hb.block b hbl).trans HLA.out; have c0 := (lit_cell h1 0).trans rfl; have c1 := (lit_cell h1 1).trans rfl; have f0 := lit_free h1 0; have f1 := lit_free h1 1)
    refine bodyPost_end (results_none rfl _ _ _) rfl ⟨rfl, ?_, ((Only.of_below hb).trans (Only.set _ _ _ _)).trans (Only.set _ _ _ _)⟩
    exact (lit_set _ (lit_set _ h1)).trans (by simp)
set_option maxRecDepth 100000 in
theorem whole_any (b : Nat) (fs : List (UInt8 × (List UInt8))) (w : World) (h : LayAt b fs w) (h8 : fs.length < 100) (hB : (prsB fs).length ≤ 1000000000) :
    Calls Tryz.prog 27 #[.pointer (some ⟨b, 0, none⟩)] w fun e w' => e = .returned (.string ⟨(mapP fs).toArray⟩) ∧ Below w.heap.size w w' := by
  have hpl := prs_length fs
  have HLD := pLaid_any 4 (prs fs).length [] w (by omega) (by decide)
  rw [laid4_eq _ (by omega)] at HLD
  have HLD := Lib.hid HLD
  have HLA := Lib.hid h
  have e1 := run_cat (headP 4 (prs fs).length) (prsB fs) (by have := headP_len 4 (prs fs).length; omega)
  have c0 := (lit_cell h 0).trans rfl
  have hbl := lit_lt h
  have HM := Lib.hid (show mapP fs = headP 4 (prs fs).length ++ prsB fs from rfl)
  rw [HM.out]
  unfold LayAt at HLA h
  generalize headP 4 (prs fs).length ++ prsB fs = W at *
  generalize headP 4 (prs fs).length = H at *
  generalize (prs fs).length = N at *
  generalize prsB fs = B at *
  clear h h8 hpl hB
  go_enter Tryz.func27, Tryz.ntmps27
  go_wp2_with (go_at_call 24; refine HLD.out.mono ?_; rintro e w1 ⟨rfl, hb⟩; have h1 := (hb.block b hbl).trans HLA.out; have c1 := (lit_cell h1 1).trans rfl)
  go_ret
  exact ⟨rfl, hb⟩
end Go.Proofs.YtlhmmplkdjibkaaGreatDoor
/- The reference's cursor: a key, how many pairs, a number, a digest, how many of a list. -/
namespace Go.Proofs.YtlhmmplkdjibkaaGreatDoor
open Go.RowKit

/-- what a call of a cursor answers and leaves -/
structure CGot {α : Type} (cb rb : Nat) (S : (List UInt8)) (r : Except Flt (α × Nat)) (x : α) (w w' : World) : Prop where
  g : Got r x
  c : Curs cb rb S (endS r) w'
  o : Duo cb rb w w'
theorem beq0 (n m : Nat) : ((n : Int) == (m : Int)) = (n == m) := by
  rw [Bool.eq_iff_iff, beq_iff_eq, beq_iff_eq]
  omega
theorem fail5 {cb rb : Nat} {S : (List UInt8)} {st : St} {w : World} (h : Curs cb rb S st w) (b : Bool) : Calls Tryz.prog 72 #[.pointer (some ⟨cb, 0, none⟩), .bool b, .int .i64 5] w fun e w' => e = .returned (.tuple #[]) ∧ Curs cb rb S (failS b 5 st) w' ∧ Only cb w w' := fail_any b 5 (by decide) h
theorem fail3 {cb rb : Nat} {S : (List UInt8)} {st : St} {w : World} (h : Curs cb rb S st w) (b : Bool) : Calls Tryz.prog 72 #[.pointer (some ⟨cb, 0, none⟩), .bool b, .int .i64 3] w fun e w' => e = .returned (.tuple #[]) ∧ Curs cb rb S (failS b 3 st) w' ∧ Only cb w w' := fail_any b 3 (by decide) h
theorem leq1 (c : UInt8) (last : (List UInt8)) : (Op.bytesLess [c] last || [c] == last) = !Op.bytesLess last [c] := by
  cases last with
  | nil => rfl
  | cons a r =>
    have h1 : Op.bytesLess [c] (a :: r) = (decide (c < a) || (c == a && Op.bytesLess [] r)) := rfl
    have h2 : Op.bytesLess (a :: r) [c] = (decide (a < c) || (a == c && Op.bytesLess r [])) := rfl
    have h3 : Op.bytesLess r [] = false := by cases r <;> rfl
    rw [h1, h2, h3, Bool.and_false, Bool.or_false]
    by_cases hlt : c < a
    · have : ¬ a < c := by rw [UInt8.lt_iff_toNat_lt] at *; omega
      simp [hlt, this]
    · by_cases hgt : a < c
      · have hne : ¬ c = a := by intro e; subst e; exact hlt hgt
        simp [hlt, hgt, hne]
      · have he : c = a := by rw [UInt8.lt_iff_toNat_lt] at *; exact UInt8.toNat_inj.1 (by omega)
        subst he
        cases r with
        | nil => simp [hlt, Op.bytesLess]
        | cons b r => simp [hlt, Op.bytesLess]
theorem isKey_one {A : List UInt8} {t : (List UInt8)} (h : isKey A t = true) : ∃ c, t = [c] := by
  unfold isKey at h
  rw [List.any_eq_true] at h
  obtain ⟨c, _, he⟩ := h
  exact ⟨c, (show [c] = t by simpa using he).symm⟩
set_option maxRecDepth 100000 in
theorem cpairs_any {cb rb : Nat} {S : (List UInt8)} {st : St} {w : World} (hS : S.length ≤ 1000000) (h : Curs cb rb S st w) :
    Calls Tryz.prog 63 #[.pointer (some ⟨cb, 0, none⟩)] w fun e w' => ∃ n : Nat, e = .returned (.int .u64 (n : Int)) ∧ n < 65536 ∧ Hid (CGot cb rb S (runS S sizeG st) n w w') := by
  have HT := Lib.hid (take_any 4 (by decide) hS h)
  clear h hS
  go_enter Tryz.func63, Tryz.ntmps63
  go_wp2_with fail
  refine HT.out.mono ?_
  rintro e w1 ⟨n, t, rfl, HQ⟩
  go_wp2
  go_ret
  obtain ⟨h1, h2⟩ := size_run S st n t HQ.out.g
  exact ⟨n, rfl, HQ.out.b16 (by decide), Lib.hid ⟨h2, h1 ▸ HQ.out.c, HQ.out.o⟩⟩
set_option maxRecDepth 100000 in
theorem cnum_any {cb rb : Nat} {S : (List UInt8)} {st : St} {w : World} (hS : S.length ≤ 1000000) (h : Curs cb rb S st w) :
    Calls Tryz.prog 71 #[.pointer (some ⟨cb, 0, none⟩)] w fun e w' => ∃ n : Nat, e = .returned (.int .u64 (n : Int)) ∧ n < 18446744073709551616 ∧ Hid (CGot cb rb S (runS S numG st) n w w') := by
  have HT := Lib.hid (take_any 0 (by decide) hS h)
  clear h hS
  go_enter Tryz.func71, Tryz.ntmps71
  go_wp2_with fail
  refine HT.out.mono ?_
  rintro e w1 ⟨n, t, rfl, HQ⟩
  have HF := Lib.hid (fail5 HQ.out.c)
  go_wp2_with fail
  refine (HF.out _).mono ?_
  rintro e w2 ⟨rfl, hc, ho⟩
  go_wp2
  go_ret
  obtain ⟨h1, h2⟩ := num_run S st n t HQ.out.g
  have hb : ((n : Int) == 0) = (n == 0) := beq0 n 0
  rw [hb, h1] at hc
  exact ⟨n, rfl, HQ.out.b, Lib.hid ⟨h2, hc, HQ.out.o.trans (Duo.only ho)⟩⟩
set_option maxRecDepth 100000 in
theorem cdigest_any {cb rb : Nat} {S : (List UInt8)} {st : St} {w : World} (hS : S.length ≤ 1000000) (h : Curs cb rb S st w) :
    Calls Tryz.prog 67 #[.pointer (some ⟨cb, 0, none⟩)] w fun e w' => ∃ t : (List UInt8), e = .returned (.string ⟨t.toArray⟩) ∧ t.length ≤ S.length ∧ Hid (CGot cb rb S (runS S digG st) t w w') := by
  have HT := Lib.hid (take_any 1 (by decide) hS h)
  clear h hS
  go_enter Tryz.func67, Tryz.ntmps67
  go_wp2_with fail
  refine HT.out.mono ?_
  rintro e w1 ⟨n, t, rfl, HQ⟩
  have HD := Lib.hid (wdigest_any t w1)
  have HF := Lib.hid (fail5 HQ.out.c)
  go_wp2_with fail
  refine HD.out.mono ?_
  rintro e w2 ⟨rfl, rfl⟩
  go_wp2_with fail
  refine (HF.out _).mono ?_
  rintro e w3 ⟨rfl, hc, ho⟩
  go_wp2
  go_ret
  obtain ⟨h1, h2⟩ := dig_run S st n t HQ.out.g
  rw [h1] at hc
  exact ⟨t, rfl, HQ.out.t, Lib.hid ⟨h2, hc, HQ.out.o.trans (Duo.only ho)⟩⟩
set_option maxRecDepth 100000 in
theorem clist_any {cb rb : Nat} {S : (List UInt8)} {st : St} {w : World} (m : Nat) (hS : S.length ≤ 1000000) (h : Curs cb rb S st w) :
    Calls Tryz.prog 68 #[.pointer (some ⟨cb, 0, none⟩), .int .u64 (m : Int)] w fun e w' => ∃ n : Nat, e = .returned (.int .u64 (n : Int)) ∧ n < 65536 ∧ Hid (CGot cb rb S (runS S (headG 3 m) st) n w w') := by
  have HT := Lib.hid (take_any 3 (by decide) hS h)
  clear h hS
  go_enter Tryz.func68, Tryz.ntmps68
  go_wp2_with fail
  refine HT.out.mono ?_
  rintro e w1 ⟨n, t, rfl, HQ⟩
  have HF := Lib.hid (fail3 HQ.out.c)
  go_wp2_with fail
  refine (HF.out _).mono ?_
  rintro e w2 ⟨rfl, hc, ho⟩
  have HC := Lib.hid hc
  have HO := Lib.hid ho
  clear hc ho HF
  have HF := Lib.hid (fail5 HC.out)
  go_wp2_with fail
  refine (HF.out _).mono ?_
  rintro e w3 ⟨rfl, hc, ho⟩
  go_wp2
  go_ret
  obtain ⟨h1, h2⟩ := head_run S st n t m HQ.out.g
  have hb : ((n : Int) == 0) = (n == 0) := beq0 n 0
  rw [hb, h1] at hc
  exact ⟨n, rfl, HQ.out.b16 (by decide), Lib.hid ⟨h2, hc, (HQ.out.o.trans (Duo.only HO.out)).trans (Duo.only ho)⟩⟩

theorem isKey_snoc (A : List UInt8) (k : Nat) (hk : k < A.length) (t : (List UInt8)) : isKey (A.take (k + 1)) t = (isKey (A.take k) t || [A[k]] == t) := by
  unfold isKey
  rw [List.take_succ_eq_append_getElem hk, List.any_append]
  simp
theorem key_cut (A : List UInt8) (k : Nat) (hk : k < A.length) : (⟨A.toArray⟩ : ByteArray).extract k (k + 1) = ⟨[A[k]].toArray⟩ := by
  rw [extract_list, List.take_succ_eq_append_getElem hk, List.drop_append_of_le_length (by rw [List.length_take]; omega), List.drop_eq_nil_of_le (by rw [List.length_take]; omega)]
  rfl
set_option maxRecDepth 100000 in
set_option maxHeartbeats 1000000 in
theorem ckey_any {cb rb : Nat} {S : (List UInt8)} {st : St} {w : World} (A : List UInt8) (hA : A.length ≤ 100) (last : (List UInt8)) (hS : S.length ≤ 1000000) (h : Curs cb rb S st w) :
    Calls Tryz.prog 65 #[.pointer (some ⟨cb, 0, none⟩), .string ⟨A.toArray⟩, .string ⟨last.toArray⟩] w fun e w' => ∃ t : (List UInt8), e = .returned (.string ⟨t.toArray⟩) ∧ Hid (CGot cb rb S (runS S (keyG A last) st) t w w') := by
  have HT := Lib.hid (take_any 2 (by decide) hS h)
  clear h hS
  have HA := Lib.hid hA
  clear hA
  go_enter Tryz.func65, Tryz.ntmps65
  go_wp2_with fail
  refine HT.out.mono ?_
  rintro e w1 ⟨n, t, rfl, HQ⟩
  clear HT
  go_wp2_with fail
  go_loopw [9, 10] (fun b i wr => ∃ k : Nat, k ≤ A.length ∧ i = .int .i64 (k : Int) ∧ b = .bool (isKey (A.take k) t) ∧ wr = w1)
    (fun _ i _ => A.length - (intOf i).toNat)
  case atStart => exact ⟨0, Nat.zero_le _, rfl, rfl, rfl⟩
  case round =>
    obtain ⟨k, hk, rfl, rfl, rfl⟩ := hrel
    by_cases hlt : k < A.length
    · have k1 : (k : Int) < (A.length : Int) := by omega
      have k0 : (0 : Int) ≤ (k : Int) := by omega
      have k2 : (k : Int) + 1 ≤ (A.length : Int) := by omega
      have k3 : (k : Int) ≤ 100 := by have := HA.out; omega
      have k4 : ((k : Int) + 1).toNat = k + 1 := by omega
      have k5 : (k : Int) ≤ (k : Int) + 1 := by omega
      have k6 : (0 : Int) ≤ (k : Int) + 1 := by omega
      have hcut := key_cut A k hlt
      have HS := Lib.hid (isKey_snoc A k hlt t)
      have HLT := Lib.hid hlt
      generalize A[k] = c at *
      clear hlt hk
      cases hb : isKey (A.take k) t with
      | true =>
        rw [hb, Bool.true_or] at HS
        clear hb
        go_wp2
        go_roundw
        case rel => exact ⟨k + 1, HLT.out, by go_num, by rw [HS.out], by first | trivial | rfl⟩
        case measure => have := HLT.out; simp [intOf] <;> omega
      | false =>
        rw [hb, Bool.false_or] at HS
        clear hb
        go_wp2
        go_roundw
        case rel => exact ⟨k + 1, HLT.out, by go_num, by rw [HS.out], by first | trivial | rfl⟩
        case measure => have := HLT.out; simp [intOf] <;> omega
    · have k1 : ¬ (k : Int) < (A.length : Int) := by omega
      obtain rfl : k = A.length := by omega
      rw [List.take_length]
      clear hlt hk
      have HR := Lib.hid (key_run S st A last n t HQ.out.g)
      have HF := Lib.hid (fail5 HQ.out.c)
      cases hb : isKey A t with
      | false =>
        rw [hb] at HR
        simp only [Bool.not_false, Bool.true_or] at HR
        clear hb
        go_wp2_with fail
        refine (HF.out _).mono ?_
        rintro e w3 ⟨rfl, hc, ho⟩
        go_wp2
        go_ret
        rw [HR.out.1] at hc
        exact ⟨t, rfl, Lib.hid ⟨HR.out.2, hc, HQ.out.o.trans (Duo.only ho)⟩⟩
      | true =>
        rw [hb] at HR
        simp only [Bool.not_true, Bool.false_or] at HR
        obtain ⟨c, rfl⟩ := isKey_one hb
        have HLE := Lib.hid (leq1 c last)
        clear hb
        go_wp2_with fail
        refine (HF.out _).mono ?_
        rintro e w3 ⟨rfl, hc, ho⟩
        go_wp2
        go_ret
        rw [HLE.out, HR.out.1] at hc
        exact ⟨[c], rfl, Lib.hid ⟨HR.out.2, hc, HQ.out.o.trans (Duo.only ho)⟩⟩
end Go.Proofs.YtlhmmplkdjibkaaGreatDoor
/- The reference's cursor: a list of digests; what a map's walk keeps. -/
namespace Go.Proofs.YtlhmmplkdjibkaaGreatDoor
open Go.RowKit

/-- append of one text -/
theorem append_txt {ops : Array Oper} {rest : List Oper} {o : Oper} {a : Act} {Q : Exit → Act → World → Prop} {wr : World} {base : Nat} {X : List (List UInt8)} {v : Value} {c : (List UInt8)} (hgd : o.guard = none) (s x : Operand)
    (ho : o.op = .call { callee := .builtin .append, args := #[s, x], argTypes := #[25, 25] })
    (hs : a.eval s = v) (hx : a.eval x = .slice (some ⟨wr.heap.size, 0, none⟩) 1 1) (hown : wr.ownsRow base 9 1 v X.length (txtCells X)) (hn : X.length ≤ 100000) (h0 : base ≤ wr.heap.size)
    (h : ∀ v' w', w'.ownsRow base 9 1 v' (X ++ [c]).length (txtCells (X ++ [c])) → wr.grownBy w' v.ownBlock → wpList Tryz.prog ops Q rest (a.put o.dst v') w') :
    wpList Tryz.prog ops Q (o :: rest) a (wr.alloc (.cells #[.string ⟨c.toArray⟩] 9)) := by
  obtain ⟨i0, hi, hz0, hz1, hz2⟩ := info_parts Tryz.info9
  refine wpList_append_own _ hgd s x 25 ho base 9 i0 (.string ⟨#[]⟩) 1 16 Tryz.underlying25 hi hz0 hz1 hz2 rfl (by decide) v X.length _ hs (hown.alloc _) ⟨wr.heap.size, 0, none⟩ 1 1 [.string ⟨c.toArray⟩] hx rfl ?_ ?_ (by unfold maxLen; omega) (by omega) (by rw [World.size_alloc]; omega) ?_
  · exact cell_one_new _ _ _
  · intro u hu; simp at hu; subst hu; rfl
  · intro v' w' hown' hg _
    refine h v' w' (by simpa [txtCells] using hown') ?_
    have h0 := World.grownBy_alloc wr (.cells #[.string ⟨c.toArray⟩] 9) none
    exact ⟨hg.os.trans h0.os, hg.tape.trans h0.tape, hg.output.trans h0.output, Nat.le_trans h0.size hg.size, fun i hi hne => (hg.block i (Nat.lt_of_lt_of_le hi h0.size) hne).trans (h0.block i hi (by simp))⟩
theorem Duo.grown {A x : Nat} {w w1 w2 : World} {o : Option Nat} (h : Duo A x w w1) (hg : w1.grownBy w2 o) (hl : ∀ j, o = some j → w.heap.size ≤ j) : Duo A x w w2 :=
  ⟨hg.os.trans h.os, hg.tape.trans h.tape, hg.output.trans h.output, Nat.le_trans h.size hg.size, fun k hk h1 h2 => (hg.block k (Nat.lt_of_lt_of_le hk h.size) (fun e => by have := hl k e.symm; omega)).trans (h.block k hk h1 h2)⟩
theorem row_low {base m B : Nat} {wr : World} {e : TypeId} {v : Value} {xs : List Value} (ho : wr.ownsRow base e 1 v m xs) (hB : B ≤ base) : ∀ j, v.ownBlock = some j → B ≤ j := by
  intro j hj
  rcases ho.2 with ⟨rfl, _⟩ | ⟨g, cap, cur, rfl, h, _⟩
  · cases hj
  · cases hj
    exact Nat.le_trans hB h
theorem Curs.grown {cb rb B : Nat} {S : (List UInt8)} {st : St} {w w' : World} {o : Option Nat} (h : Curs cb rb S st w) (hg : w.grownBy w' o) (hl : ∀ j, o = some j → B ≤ j) (h1 : cb < B) (h2 : rb < B) : Curs cb rb S st w' :=
  h.to (hg.block _ h.lt (fun e => by have := hl _ e.symm; omega)) (hg.block _ h.rt (fun e => by have := hl _ e.symm; omega))
/-- a row of one's own is left alone by who writes a cursor alone -/
theorem own_duo {cb rb base n : Nat} {v : Value} {xs : List Value} {w w' : World} (h : w.ownsRow base 9 1 v n xs) (hd : Duo cb rb w w') (h1 : cb < base) (h2 : rb < base) : w'.ownsRow base 9 1 v n xs := by
  refine ⟨h.1, ?_⟩
  rcases h.2 with h | ⟨g, cap, cur, e, hg, hh, r⟩
  · exact .inl h
  · exact .inr ⟨g, cap, cur, e, hg, (hd.block g (Array.getElem?_eq_some_iff.1 hh).1 (by omega) (by omega)).trans hh, r⟩
/-- a list's walk -/
structure DInv (m n k : Nat) (S : (List UInt8)) (st : St) (tot : Except Flt (List (List UInt8) × Nat)) (L : List (List UInt8)) : Prop where
  l : L.length = k
  b : k = 0 ∨ n ≤ m
  t : ∀ x ∈ L, x.length ≤ S.length
  i : LInv S digG tot (n - k) L st
set_option maxRecDepth 100000 in
set_option maxHeartbeats 1000000 in
theorem cdigests_any {cb rb : Nat} {S : (List UInt8)} {st : St} {w : World} (m : Nat) (hm : m ≤ 10240) (hS : S.length ≤ 1000000) (h : Curs cb rb S st w) :
    Calls Tryz.prog 66 #[.pointer (some ⟨cb, 0, none⟩), .int .u64 (m : Int)] w fun e w' => ∃ (ao : Option Addr) (cp : Nat) (L : List (List UInt8)), e = .returned (.slice ao L.length cp) ∧ Hid (L.length ≤ m ∧ (∀ x ∈ L, x.length ≤ S.length) ∧ Fresh w.heap.size ao L w') ∧ Hid (CGot cb rb S (runS S (listG m digG) st) L w w') := by
  have HL := Lib.hid (clist_any m hS h)
  have HD := Lib.hid (fun st wz (h : Curs cb rb S st wz) => cdigest_any hS h)
  have HLT := Lib.hid (And.intro h.lt h.rt)
  have HM := Lib.hid hm
  clear h hS hm
  obtain ⟨tot, hT⟩ : ∃ tot, runS S (listG m digG) st = tot := ⟨_, rfl⟩
  rw [hT]
  have HTOT := Lib.hid hT
  clear hT
  go_enter Tryz.func66, Tryz.ntmps66
  go_wp2_with fail
  refine HL.out.mono ?_
  rintro e w1 ⟨n, rfl, hn, HQ⟩
  have HI := Lib.hid (HTOT.out ▸ LInv.start S m digG st n HQ.out.g)
  have HNM := Lib.hid (show badS (endS (runS S (headG 3 m) st)) = true ∨ n ≤ m from by
    cases hr : runS S (headG 3 m) st with
    | error f => exact .inl rfl
    | ok p =>
      obtain ⟨y, a⟩ := p
      have hg := HQ.out.g
      rw [hr] at hg
      cases hg.is
      right
      cases st with
      | error f => cases hr
      | ok a0 =>
        unfold runS headG at hr
        simp only at hr
        cases he : takeE 3 (S.drop a0) a0 with
        | error f => rw [he] at hr; cases hr
        | ok p =>
          obtain ⟨⟨n2, t⟩, k⟩ := p
          rw [he] at hr
          simp only at hr
          by_cases h1 : m < n2
          · simp only [if_pos h1] at hr; cases hr
          · simp only [if_neg h1] at hr
            by_cases h2 : n2 = 0
            · simp only [if_pos h2] at hr; cases hr
            · simp only [if_neg h2] at hr; cases hr; omega)
  have HC := Lib.hid HQ.out.c
  have HO := Lib.hid HQ.out.o
  clear HQ HL
  generalize endS (runS S (headG 3 m) st) = st1 at *
  have HN := Lib.hid hn
  clear hn
  go_wp2_with fail
  go_loopw [6, 7] (fun v i wr => ∃ (k : Nat) (L : List (List UInt8)) (st2 : St), k ≤ n ∧ i = .int .u64 (k : Int) ∧ Hid (DInv m n k S st2 tot L) ∧ Hid (badS st2 = true ∨ n ≤ m) ∧ Hid (wr.ownsRow w.heap.size 9 1 v L.length (txtCells L)) ∧ Hid (Curs cb rb S st2 wr) ∧ Hid (Duo cb rb w wr))
    (fun _ i _ => n - (intOf i).toNat)
  case atStart => exact ⟨0, [], st1, Nat.zero_le _, rfl, Lib.hid ⟨rfl, .inl rfl, (fun x hx => by cases hx), HI.out⟩, HNM, Lib.hid (World.ownsRow_nil _ _ _ _), HC, HO⟩
  case round =>
    obtain ⟨k, L, st2, hk, rfl, HI, HNM, HW, HC, HO⟩ := hrel
    have HB := Lib.hid (bad_any HC.out)
    by_cases hlt : k < n
    · have k1 : (k : Int) < (n : Int) := by omega
      have k0 : (0 : Int) ≤ (k : Int) := by omega
      have k3 : (k : Int) ≤ 65536 := by have := HN.out; omega
      have k4 : (0 : Int) ≤ (k : Int) := by omega
      have HLT2 := Lib.hid hlt
      cases hst : st2 with
      | error f =>
        subst hst
        clear hlt hk
        go_wp2_with (go_at_call 64; refine HB.out.mono ?_; rintro e w2 ⟨rfl, rfl⟩)
        go_ret
        obtain ⟨h1, h2⟩ := HI.out.i.done (.inr rfl)
        obtain ⟨ao, cp, rfl, hf⟩ := txt_of_owns HW.out rfl
        refine ⟨ao, cp, L, rfl, Lib.hid ⟨?_, HI.out.t, hf⟩, Lib.hid ⟨h2, h1 ▸ HC.out, HO.out⟩⟩
        have := HI.out.l; have := HI.out.b; have := HLT2.out; omega
      | ok a =>
        subst hst
        have HDG := Lib.hid (fun wz h => HD.out (.ok a) wz h)
        have hnm : n ≤ m := by
          rcases HNM.out with h | h
          · cases h
          · exact h
        have HNM2 := Lib.hid hnm
        clear hlt hk HNM hnm
        go_upto_region 6 with (go_at_call 64; refine HB.out.mono ?_; rintro e w2 ⟨rfl, rfl⟩)
        go_wp2_with (first
          | (go_at_call 67; refine (HDG.out _ HC.out).mono ?_; rintro e w3 ⟨t, rfl, ht, HX⟩; have HW3 := Lib.hid (own_duo HW.out HX.out.o (by have := HLT.out.1; omega) (by have := HLT.out.2; omega)); have HG3 := Lib.hid (Nat.le_trans HO.out.size HX.out.o.size); have HT3 := Lib.hid ht; clear ht)
          | (at_builtin; refine append_txt rfl _ _ rfl rfl rfl HW3.out (by have := HI.out.l; have := HLT2.out; have := HNM2.out; have := HM.out; omega) HG3.out ?_; intro v4 w4 ho4 hg4; have HO4 := Lib.hid ho4; have HG4 := Lib.hid hg4; clear ho4 hg4))
        go_roundw
        case rel =>
          have hlow := row_low HW3.out (Nat.le_refl w.heap.size)
          refine ⟨k + 1, L ++ [t], _, HLT2.out, by go_num, Lib.hid ⟨by rw [List.length_append, HI.out.l]; rfl, .inr HNM2.out, ?_, ?_⟩, Lib.hid (.inr HNM2.out), HO4, Lib.hid (HX.out.c.grown HG4.out hlow HLT.out.1 HLT.out.2), Lib.hid ((HO.out.trans HX.out.o).grown HG4.out hlow)⟩
          · intro x hx
            rcases List.mem_append.1 hx with hx | hx
            · exact HI.out.t x hx
            · obtain rfl := List.mem_singleton.1 hx
              exact HT3.out
          · have h1 := HI.out.i
            rw [show n - k = (n - (k + 1)) + 1 by have := HLT2.out; omega] at h1
            exact h1.step t HX.out.g
        case measure => have := HLT2.out; simp [intOf] <;> omega
    · have k1 : ¬ (k : Int) < (n : Int) := by omega
      obtain rfl : k = n := by omega
      clear hlt hk
      go_wp2_with (go_at_call 64; refine HB.out.mono ?_; rintro e w2 ⟨rfl, rfl⟩)
      go_ret
      obtain ⟨h1, h2⟩ := HI.out.i.done (.inl (Nat.sub_self _))
      obtain ⟨ao, cp, rfl, hf⟩ := txt_of_owns HW.out rfl
      refine ⟨ao, cp, L, rfl, Lib.hid ⟨?_, HI.out.t, hf⟩, Lib.hid ⟨h2, h1 ▸ HC.out, HO.out⟩⟩
      have := HI.out.l; have := HI.out.b; omega

/-- what a map's walk keeps: the cursor; the result's cells (to be written), the thing's cells -/
structure Rd (w0 : World) (cb rb : Nat) (S : (List UInt8)) (st : St) (T : TypeId) (r0 cs : Array Value) (wz : World) : Prop where
  c : Curs cb rb S st wz
  o : Duo cb rb w0 wz
  r : wz.heap[w0.heap.size]? = some (.cells r0 T (0, 0))
  p : wz.heap[w0.heap.size + 1]? = some (.cells cs T (0, 0))
  lt : cb < w0.heap.size ∧ rb < w0.heap.size
theorem Rd.call {w0 wz wa : World} {cb rb : Nat} {S : (List UInt8)} {st st2 : St} {T : TypeId} {r0 cs : Array Value} (h : Rd w0 cb rb S st T r0 cs wz) (ho : Duo cb rb wz wa) (hc : Curs cb rb S st2 wa) : Rd w0 cb rb S st2 T r0 cs wa := by
  have h1 := h.lt
  exact ⟨hc, h.o.trans ho, (ho.block _ (lit_lt h.r) (by omega) (by omega)).trans h.r, (ho.block _ (lit_lt h.p) (by omega) (by omega)).trans h.p, h1⟩
theorem Rd.set {w0 wz : World} {cb rb : Nat} {S : (List UInt8)} {st : St} {T : TypeId} {r0 cs : Array Value} (h : Rd w0 cb rb S st T r0 cs wz) (k : Nat) (v : Value) : Rd w0 cb rb S st T r0 (cs.setIfInBounds k v) (wz.setCell ⟨w0.heap.size + 1, k, none⟩ v) := by
  have h1 := h.lt
  have ho := Only.set (w0.heap.size + 1) k v wz
  exact ⟨h.c.only ho (by omega) (by omega), ⟨ho.os.trans h.o.os, ho.tape.trans h.o.tape, ho.output.trans h.o.output, Nat.le_trans h.o.size ho.size, fun j hj a b => (ho.block j (Nat.lt_of_lt_of_le hj h.o.size) (by omega)).trans (h.o.block j hj a b)⟩,
    (ho.block _ (lit_lt h.r) (by omega)).trans h.r, lit_set v h.p, h1⟩
theorem Rd.start {w : World} {cb rb : Nat} {S : (List UInt8)} {st : St} (h : Curs cb rb S st w) (T : TypeId) (cs : Array Value) : Rd w cb rb S st T cs cs ((w.alloc (.cells cs T)).alloc (.cells cs T)) := by
  have hb : Below w.heap.size w ((w.alloc (.cells cs T)).alloc (.cells cs T)) := (by0 w _).alloc (by simp) _
  refine ⟨h.next hb, Duo.below hb, lit_old _ (heap_alloc_new w _), ?_, ⟨h.lt, h.rt⟩⟩
  rw [show w.heap.size + 1 = (w.alloc (.cells cs T)).heap.size by simp]
  exact heap_alloc_new _ _
/-- the end: the result's cells are written -/
theorem Rd.fin {w0 wz wa : World} {cb rb : Nat} {S : (List UInt8)} {st : St} {T : TypeId} {r0 cs : Array Value} (h : Rd w0 cb rb S st T r0 cs wz) (ho : Only w0.heap.size wz wa) : Curs cb rb S st wa ∧ Duo cb rb w0 wa := by
  have h1 := h.lt
  exact ⟨h.c.only ho (by omega) (by omega), ⟨ho.os.trans h.o.os, ho.tape.trans h.o.tape, ho.output.trans h.o.output, Nat.le_trans h.o.size ho.size, fun j hj a b => (ho.block j (Nat.lt_of_lt_of_le hj h.o.size) (by omega)).trans (h.o.block j hj a b)⟩⟩
end Go.Proofs.YtlhmmplkdjibkaaGreatDoor
