/- A Reveal: its row reads. -/
import Derived.Test.YtbkiijndhjmkdaaGreatDoorJ26
namespace Go.Proofs.YtbkiijndhjmkdaaGreatDoor
open Go.RowKit

/-- a Reveal in the block t -/
structure RpRev (B rb t : Nat) (p : RevR) (w : World) : Prop where
  b : B ≤ w.heap.size + 1 ∧ rb < w.heap.size + 1
  h : ∃ wa wc pa pc, w.heap[t]? = some (.cells (revQ ⟨p, wa, wc, pa, pc⟩).toArray 93 (0, 0)) ∧ OwnS B rb t wa wc p.slot.sig.wots w ∧ OwnS B rb t pa pc p.slot.sig.path w
theorem RpRev.next {B rb t : Nat} {p : RevR} {w w' : World} (hrt : t ≠ rb) (h : RpRev B rb t p w) (hd : Duo rb rb w w') : RpRev B rb t p w' := by
  obtain ⟨⟨hB, hrb⟩, wa, wc, pa, pc, h1, h2, h3⟩ := h
  have hs := hd.size
  exact ⟨⟨by omega, by omega⟩, wa, wc, pa, pc, (hd.block t (lit_lt h1) hrt hrt).trans h1, h2.next hd.weak, h3.next hd.weak⟩
theorem rev_pos_l {B rb t : Nat} : NumL rb t 0 93 (RpRev B rb t) (·.pos) (fun p v => { p with pos := v }) := by
  intro s w hp
  obtain ⟨⟨hB, hrb⟩, wa, wc, pa, pc, h1, h2, h3⟩ := hp
  refine ⟨_, h1, rfl, fun v w' hd ht => ?_⟩
  have hs := hd.size
  exact ⟨⟨by omega, by omega⟩, wa, wc, pa, pc, ht, h2.next hd, h3.next hd⟩
theorem rev_part_root_l {B rb t : Nat} (p : RevR) : DigL rb t 6 93 (fun s w => RpRev B rb t { p with part := s } w) (·.root) (fun p v => { p with root := v }) := by
  intro s w hp
  obtain ⟨⟨hB, hrb⟩, wa, wc, pa, pc, h1, h2, h3⟩ := hp
  refine ⟨_, h1, rfl, fun v w' hd ht => ?_⟩
  have hs := hd.size
  exact ⟨⟨by omega, by omega⟩, wa, wc, pa, pc, ht, h2.next hd, h3.next hd⟩
theorem rev_part_weight_l {B rb t : Nat} (p : RevR) : NumL rb t 7 93 (fun s w => RpRev B rb t { p with part := s } w) (·.weight) (fun p v => { p with weight := v }) := by
  intro s w hp
  obtain ⟨⟨hB, hrb⟩, wa, wc, pa, pc, h1, h2, h3⟩ := hp
  refine ⟨_, h1, rfl, fun v w' hd ht => ?_⟩
  have hs := hd.size
  exact ⟨⟨by omega, by omega⟩, wa, wc, pa, pc, ht, h2.next hd, h3.next hd⟩
theorem rev_part_first_l {B rb t : Nat} (p : RevR) : NumL rb t 8 93 (fun s w => RpRev B rb t { p with part := s } w) (·.first) (fun p v => { p with first := v }) := by
  intro s w hp
  obtain ⟨⟨hB, hrb⟩, wa, wc, pa, pc, h1, h2, h3⟩ := hp
  refine ⟨_, h1, rfl, fun v w' hd ht => ?_⟩
  have hs := hd.size
  exact ⟨⟨by omega, by omega⟩, wa, wc, pa, pc, ht, h2.next hd, h3.next hd⟩
theorem rev_part_life_l {B rb t : Nat} (p : RevR) : NumL rb t 9 93 (fun s w => RpRev B rb t { p with part := s } w) (·.life) (fun p v => { p with life := v }) := by
  intro s w hp
  obtain ⟨⟨hB, hrb⟩, wa, wc, pa, pc, h1, h2, h3⟩ := hp
  refine ⟨_, h1, rfl, fun v w' hd ht => ?_⟩
  have hs := hd.size
  exact ⟨⟨by omega, by omega⟩, wa, wc, pa, pc, ht, h2.next hd, h3.next hd⟩
theorem rev_part_keys_l {B rb t : Nat} (p : RevR) : NumL rb t 10 93 (fun s w => RpRev B rb t { p with part := s } w) (·.keys) (fun p v => { p with keys := v }) := by
  intro s w hp
  obtain ⟨⟨hB, hrb⟩, wa, wc, pa, pc, h1, h2, h3⟩ := hp
  refine ⟨_, h1, rfl, fun v w' hd ht => ?_⟩
  have hs := hd.size
  exact ⟨⟨by omega, by omega⟩, wa, wc, pa, pc, ht, h2.next hd, h3.next hd⟩
theorem rev_slot_l_l {B rb t : Nat} (p : RevR) : NumL rb t 1 93 (fun s w => RpRev B rb t { p with slot := s } w) (·.l) (fun p v => { p with l := v }) := by
  intro s w hp
  obtain ⟨⟨hB, hrb⟩, wa, wc, pa, pc, h1, h2, h3⟩ := hp
  refine ⟨_, h1, rfl, fun v w' hd ht => ?_⟩
  have hs := hd.size
  exact ⟨⟨by omega, by omega⟩, wa, wc, pa, pc, ht, h2.next hd, h3.next hd⟩
theorem rev_slot_signed_l {B rb t : Nat} (p : RevR) : YesL rb t 2 93 (fun s w => RpRev B rb t { p with slot := s } w) (·.signed) (fun p v => { p with signed := v }) := by
  intro s w hp
  obtain ⟨⟨hB, hrb⟩, wa, wc, pa, pc, h1, h2, h3⟩ := hp
  refine ⟨_, h1, rfl, fun v w' hd ht => ?_⟩
  have hs := hd.size
  exact ⟨⟨by omega, by omega⟩, wa, wc, pa, pc, ht, h2.next hd, h3.next hd⟩
theorem rev_sig_index_l {B rb t : Nat} (p : RevR) (q : SlotR) : NumL rb t 3 93 (fun s w => RpRev B rb t { p with slot := { q with sig := s } } w) (·.index) (fun p v => { p with index := v }) := by
  intro s w hp
  obtain ⟨⟨hB, hrb⟩, wa, wc, pa, pc, h1, h2, h3⟩ := hp
  refine ⟨_, h1, rfl, fun v w' hd ht => ?_⟩
  have hs := hd.size
  exact ⟨⟨by omega, by omega⟩, wa, wc, pa, pc, ht, h2.next hd, h3.next hd⟩
theorem rev_sig_wots_l {B rb t : Nat} (p : RevR) (q : SlotR) : ListL 9 1 RelS rb t 4 93 (fun s w => RpRev B rb t { p with slot := { q with sig := s } } w) (·.wots) (fun p v => { p with wots := v }) := by
  intro s w hp
  obtain ⟨⟨hB, hrb⟩, wa, wc, pa, pc, h1, h2, h3⟩ := hp
  refine ⟨_, wa, wc, h1, rfl, fun e => h2.nil e, fun l v xs w' hd ht ho hx => ?_⟩
  have hs := hd.size
  obtain ⟨ao, cp, rfl, hO⟩ := OwnS.of_own (B := B) (rb := rb) (t := t) ho hx.1 hx.2 hB hrb (by have := lit_lt h1; omega)
  exact ⟨⟨by omega, by omega⟩, ao, cp, pa, pc, ht, hO, h3.next hd⟩
theorem rev_sig_path_l {B rb t : Nat} (p : RevR) (q : SlotR) : ListL 9 1 RelS rb t 5 93 (fun s w => RpRev B rb t { p with slot := { q with sig := s } } w) (·.path) (fun p v => { p with path := v }) := by
  intro s w hp
  obtain ⟨⟨hB, hrb⟩, wa, wc, pa, pc, h1, h2, h3⟩ := hp
  refine ⟨_, pa, pc, h1, rfl, fun e => h3.nil e, fun l v xs w' hd ht ho hx => ?_⟩
  have hs := hd.size
  obtain ⟨ao, cp, rfl, hO⟩ := OwnS.of_own (B := B) (rb := rb) (t := t) ho hx.1 hx.2 hB hrb (by have := lit_lt h1; omega)
  exact ⟨⟨by omega, by omega⟩, wa, wc, ao, cp, ht, h2.next hd, hO⟩
/-- a Part's row reads, whatever the Reveal around it -/
theorem rpart_rd {w0 : World} {lo rb t fb B : Nat} {S : (List UInt8)} {fs : List FV} (hK : PartK lo t 6 fb fs w0) (hlo : rb < lo ∧ t < lo) (hrt : t ≠ rb) (hS : S.length ≤ 1000000) : ∃ xs : List (RW PartR), fs = xs.map (·.f) ∧ xs.length = 5 ∧ xs.map (·.g) = partFs ∧ (∀ p : RevR, ∀ x ∈ xs, ReadF w0 rb t S (fun s w => RpRev B rb t { p with part := s } w) x) ∧ ∀ p, okV partFs p → (!xs.any fun x => x.f.needed && !(x.g.view p).isSome) = (!p.root.isEmpty) := by
  obtain ⟨⟨k0, k1, k2, k3, k4, rfl, h0, h1, h2, h3, h4⟩, _, _⟩ := hK
  refine ⟨[⟨numFV 102 k0, numFld 102 (·.first) (fun p v => { p with first := v }), numRd⟩, ⟨numFV 107 k1, numFld 107 (·.keys) (fun p v => { p with keys := v }), numRd⟩, ⟨numFV 108 k2, numFld 108 (·.life) (fun p v => { p with life := v }), numRd⟩, ⟨digFV 114 k3, digFld 114 (·.root) (fun p v => { p with root := v }), digRd⟩, ⟨numFV 119 k4, numFld 119 (·.weight) (fun p v => { p with weight := v }), numRd⟩], rfl, rfl, rfl, fun p x hx => ?_, fun p _ => ?_⟩
  · simp only [List.mem_cons, List.not_mem_nil, or_false] at hx
    rcases hx with rfl | rfl | rfl | rfl | rfl
    · exact read_num (T := 93) h0 hlo hrt hS (rev_part_first_l p) (fun p h => by cases p; simp_all)
    · exact read_num (T := 93) h1 hlo hrt hS (rev_part_keys_l p) (fun p h => by cases p; simp_all)
    · exact read_num (T := 93) h2 hlo hrt hS (rev_part_life_l p) (fun p h => by cases p; simp_all)
    · exact read_dig (T := 93) h3 hlo hrt hS (rev_part_root_l p)
    · exact read_num (T := 93) h4 hlo hrt hS (rev_part_weight_l p) (fun p h => by cases p; simp_all)
  · simp only [List.any_cons, List.any_nil, numFld, digFld, Bool.false_and, Bool.true_and, Bool.or_false, Bool.false_or]
    simp only [dig_some]
    generalize p.root.isEmpty = a0
    cases a0 <;> rfl
theorem rsig_rd {w0 : World} {lo rb t fb B : Nat} {S : (List UInt8)} {fs : List FV} (hK : SigK lo t 3 fb fs w0) (hlo : rb < lo ∧ t < lo) (hrt : t ≠ rb) (hS : S.length ≤ 1000000) (hG : 4 ≤ rb ∧ 4 ≤ t) : ∃ xs : List (RW SigR), fs = xs.map (·.f) ∧ xs.length = 3 ∧ xs.map (·.g) = sigFs ∧ (∀ p : RevR, ∀ q : SlotR, ∀ x ∈ xs, ReadF w0 rb t S (fun s w => RpRev B rb t { p with slot := { q with sig := s } } w) x) ∧ ∀ s, (!xs.any fun x => x.f.needed && !(x.g.view s).isSome) = true := by
  obtain ⟨⟨k0, k1, k2, rfl, h0, h1, h2⟩, _, _⟩ := hK
  refine ⟨[⟨numFV 105 k0, numFld 105 (·.index) (fun p v => { p with index := v }), numRd⟩, ⟨listSFV 112 k1, listFld 112 16 (by decide) digC (·.path) (fun p v => { p with path := v }), lrd 16 digG⟩, ⟨listSFV 118 k2, listFld 118 67 (by decide) digC (·.wots) (fun p v => { p with wots := v }), lrd 67 digG⟩], rfl, rfl, rfl, fun p q x hx => ?_, fun p => ?_⟩
  · simp only [List.mem_cons, List.not_mem_nil, or_false] at hx
    rcases hx with rfl | rfl | rfl
    · exact read_num (T := 93) h0 hlo hrt hS (rev_sig_index_l p q) (fun p h => by cases p; simp_all)
    · exact read_strs (T := 93) (by decide) h1 hlo hrt hS hG (rev_sig_path_l p q) (fun p h => by cases p; simp_all)
    · exact read_strs (T := 93) (by decide) h2 hlo hrt hS hG (rev_sig_wots_l p q) (fun p h => by cases p; simp_all)
  · rfl
set_option maxRecDepth 100000 in
theorem rslot_rd {w0 : World} {lo rb t fb B : Nat} {S : (List UInt8)} {fs : List FV} (hK : SlotK lo t 1 fb fs w0) (hlo : rb < lo ∧ t < lo) (hrt : t ≠ rb) (hS : S.length ≤ 1000000) (hG : 4 ≤ rb ∧ 4 ≤ t) (ht : t < w0.heap.size) : ∃ xs : List (RW SlotR), fs = xs.map (·.f) ∧ xs.length = 3 ∧ xs.map (·.g) = slotFs ∧ (∀ p : RevR, ∀ x ∈ xs, ReadF w0 rb t S (fun s w => RpRev B rb t { p with slot := s } w) x) ∧ ∀ p, (!xs.any fun x => x.f.needed && !(x.g.view p).isSome) = true := by
  obtain ⟨⟨k0, fb0, k1, k2, rfl, h0, ⟨fs0, hK0⟩, h1, h2⟩, _, _⟩ := hK
  obtain ⟨ys, hfs, hyn, hyg, hyf, hyfin⟩ := rsig_rd (B := B) hK0 hlo hrt hS hG
  refine ⟨[⟨thingFV 103 false k0, nzFld 103 sigC sigZ (·.sig) (fun p v => { p with sig := v }), thRd sigC sigZ⟩, ⟨numFV 108 k1, numFld 108 (·.l) (fun p v => { p with l := v }), numRd⟩, ⟨yesFV 115 k2, yesFld 115 (·.signed) (fun p v => { p with signed := v }), yesRd⟩], rfl, rfl, rfl, fun p x hx => ?_, fun p => ?_⟩
  · simp only [List.mem_cons, List.not_mem_nil, or_false] at hx
    rcases hx with rfl | rfl | rfl
    · refine read_thing (xs := ys) (zero := zSig) (lo := lo) (fb := fb0) (by rw [hyn]; exact h0) (by rw [← hfs]; exact hK0.r) hK0.l hlo hS hG ht (by rw [hyg]; exact sig_flds) (hyf p) (fun p w w' h hd => h.next hrt hd) (fun left a => ?_) (fun s => by rw [any_g, hyg]; exact sigZ_any s) (fun s h => sigZ_zero h) (fun p => rfl)
      rw [hyg]
      exact mapG_congr sig_flds (fun s _ => hyfin s) left a
    · exact read_num (T := 93) h1 hlo hrt hS (rev_slot_l_l p) (fun p h => by cases p; simp_all)
    · exact read_yes (T := 93) h2 hlo hrt hS (rev_slot_signed_l p) (fun p h => by cases p; simp_all)
  · rfl
theorem partZ_any (s : PartR) : partZ s = !partFs.any fun g => (g.view s).isSome := by
  obtain ⟨r, a, b, c, d⟩ := s
  simp only [partFs, List.any_cons, List.any_nil, numFld, digFld, partZ, Bool.or_false]
  cases r <;> cases a <;> cases b <;> cases c <;> cases d <;> rfl
theorem partZ_zero {s : PartR} (h : partZ s = true) : s = zPart := by
  obtain ⟨r, a, b, c, d⟩ := s
  cases r <;> cases a <;> cases b <;> cases c <;> cases d <;> first | rfl | (simp [partZ] at h)
theorem slotZ_any (s : SlotR) : slotZ s = !slotFs.any fun g => (g.view s).isSome := by
  obtain ⟨l, b, g⟩ := s
  simp only [slotFs, List.any_cons, List.any_nil, numFld, yesFld, nzFld, slotZ, Bool.or_false]
  generalize sigZ g = z
  cases l <;> cases b <;> cases z <;> rfl
theorem slotZ_zero {s : SlotR} (h : slotZ s = true) : s = zSlot := by
  obtain ⟨l, b, g⟩ := s
  have h1 : sigZ g = true := by cases hq : sigZ g <;> simp_all [slotZ]
  rw [sigZ_zero h1]
  cases l <;> cases b <;> first | rfl | (simp [slotZ] at h)
end Go.Proofs.YtbkiijndhjmkdaaGreatDoor
/- A Reveal's own row. -/
namespace Go.Proofs.YtbkiijndhjmkdaaGreatDoor
open Go.RowKit

/-- a thing whose reading never answers a zero one -/
theorem ReadF.plain {ρ σ : Type} {w0 : World} {rb t : Nat} {S : (List UInt8)} {Rp : ρ → World → Prop} {f : FV} {c : UInt8} {C : Codec σ} {z : σ → Bool} {of : ρ → σ} {set : ρ → σ → ρ} (h : ReadF w0 rb t S Rp ⟨f, nzFld c C z of set, thRd C z⟩) (hz : ∀ left a v k, C.get left a = .ok (v, k) → z v = false) :
    ReadF w0 rb t S Rp ⟨f, ⟨c, σ, C, fun p => if z (of p) then none else some (of p), set⟩, thRd C z⟩ where
  key := h.key
  tE := h.tE
  rE := h.rE
  get left a := by
    show C.get left a = _
    have e := hz left a
    dsimp only [thRd]
    cases hq : C.get left a with
    | error f => rfl
    | ok q =>
      obtain ⟨v, k⟩ := q
      rw [hq] at e
      dsimp only
      rw [e v k rfl]
      rfl
  there := h.there
  read w p a h1 h2 h3 h4 h5 h6 := by
    have k := h.read w p a h1 h2 h3 h4 h5 h6
    have e : RW.step ⟨f, ⟨c, σ, C, fun p => if z (of p) then none else some (of p), set⟩, thRd C z⟩ p (S.drop a) a = RW.step ⟨f, nzFld c C z of set, thRd C z⟩ p (S.drop a) a := by
      unfold RW.step
      dsimp only [thRd, nzFld]
      cases C.get (S.drop a) a with
      | error f => rfl
      | ok q =>
        obtain ⟨v, j⟩ := q
        dsimp only
        cases z v <;> rfl
    rw [e]
    exact k
set_option maxRecDepth 100000 in
theorem rev_rd {w0 : World} {lo rb t fb B : Nat} {S : (List UInt8)} {fs : List FV} (hK : RevK lo t 0 fb fs w0) (hlo : rb < lo ∧ t < lo) (hrt : t ≠ rb) (hS : S.length ≤ 1000000) (hG : 4 ≤ rb ∧ 4 ≤ t) (ht : t < w0.heap.size) : ∃ xs : List (RW RevR), fs = xs.map (·.f) ∧ xs.length = 3 ∧ xs.map (·.g) = revFs ∧ (∀ x ∈ xs, ReadF w0 rb t S (RpRev B rb t) x) ∧ ∀ p, okV revFs p → (!xs.any fun x => x.f.needed && !(x.g.view p).isSome) = (!p.part.root.isEmpty) := by
  obtain ⟨⟨k0, k1, fb1, k2, fb2, rfl, h0, h1, ⟨fs1, hK1⟩, h2, ⟨fs2, hK2⟩⟩, _, _⟩ := hK
  obtain ⟨ys, hfs, hyn, hyg, hyf, hyfin⟩ := rpart_rd (B := B) hK1 hlo hrt hS
  obtain ⟨zs, gfs, hzn, hzg, hzf, hzfin⟩ := rslot_rd (B := B) hK2 hlo hrt hS hG ht
  refine ⟨[⟨numFV 112 k0, numFld 112 (·.pos) (fun p v => { p with pos := v }), numRd⟩, ⟨thingFV 113 true k1, rpartFld, thRd partC partZ⟩, ⟨thingFV 115 false k2, nzFld 115 slotC slotZ (·.slot) (fun p v => { p with slot := v }), thRd slotC slotZ⟩], rfl, rfl, rfl, fun x hx => ?_, fun p hok => ?_⟩
  · simp only [List.mem_cons, List.not_mem_nil, or_false] at hx
    rcases hx with rfl | rfl | rfl
    · exact read_num (T := 93) h0 hlo hrt hS rev_pos_l (fun p h => by cases p; simp_all)
    · refine ReadF.plain (c := 113) (C := partC) (z := partZ) (of := RevR.part) (set := fun p v => { p with part := v }) (read_thing (xs := ys) (zero := zPart) (lo := lo) (fb := fb1) (by rw [hyn]; exact h1) (by rw [← hfs]; exact hK1.r) hK1.l hlo hS hG ht (by rw [hyg]; exact part_flds) hyf (fun p w w' h hd => h.next hrt hd) (fun left a => ?_) (fun s => by rw [any_g, hyg]; exact partZ_any s) (fun s h => partZ_zero h) (fun p => rfl)) (fun left a v k h => partC_nz (partC.back left a v k h).1)
      rw [hyg]
      exact mapG_congr part_flds hyfin left a
    · refine read_thing (xs := zs) (zero := zSlot) (lo := lo) (fb := fb2) (by rw [hzn]; exact h2) (by rw [← gfs]; exact hK2.r) hK2.l hlo hS hG ht (by rw [hzg]; exact slot_flds) hzf (fun p w w' h hd => h.next hrt hd) (fun left a => ?_) (fun s => by rw [any_g, hzg]; exact slotZ_any s) (fun s h => slotZ_zero h) (fun p => rfl)
      rw [hzg]
      exact mapG_congr slot_flds (fun s _ => hzfin s) left a
  · simp only [List.any_cons, List.any_nil, numFld, rpartFld, nzFld, Bool.false_and, Bool.true_and, Bool.or_false, Bool.false_or]
    have e : partZ p.part = p.part.root.isEmpty := by
      cases hq : partZ p.part with
      | true => rw [partZ_zero hq]; rfl
      | false =>
        have h := (hok rpartFld (by simp [revFs]) p.part (by show (if partZ p.part then none else some p.part) = _; rw [hq]; rfl)).2
        have h2 : (!p.part.root.isEmpty) = true := h
        cases hr : p.part.root.isEmpty <;> simp_all
    rw [← e]
    cases partZ p.part <;> rfl
end Go.Proofs.YtbkiijndhjmkdaaGreatDoor
/- things$2: one Reveal that is read. -/
namespace Go.Proofs.YtbkiijndhjmkdaaGreatDoor
open Go.RowKit

/-- a Reveal that a closure reads -/
def ERdR (rb : Nat) (S : (List UInt8)) (a : Nat) (w : World) (res : Res RevR) (e : Ending) (w' : World) : Prop := match res with
  | .ok (p, k) => (∃ y : RevE, y.r = p ∧ e = .returned (revV y) ∧ OwnS w.heap.size rb rb y.wa y.wc y.r.slot.sig.wots w' ∧ OwnS w.heap.size rb rb y.pa y.pc y.r.slot.sig.path w') ∧ RQ rb S (a + k) 10240 w' ∧ a + k ≤ S.length ∧ Only rb w w'
  | .error (c, b) => c ≠ 0 ∧ Up w.heap.size c b e w' ∧ Only rb w w'
theorem OwnS.loose {B rb t cp : Nat} {ao : Option Addr} {L : List (List UInt8)} {w : World} (h : OwnS B rb t ao cp L w) : OwnS B rb rb ao cp L w := by
  rcases h with h | ⟨b, h0, h1, h2, h3, h4, h5, h6⟩
  · exact .inl h
  · exact .inr ⟨b, h0, h1, h2, h3, h3, h5, h6⟩
theorem only_duo {rb t : Nat} {w w1 w' : World} (hb : Below w.heap.size w w1) (hd : Duo rb t w1 w') (ht : w.heap.size ≤ t) : Only rb w w' :=
  ⟨hd.os.trans hb.os, hd.tape.trans hb.tape, hd.output.trans hb.output, Nat.le_trans hb.size hd.size, fun k hk hne => (hd.block k (Nat.lt_of_lt_of_le hk hb.size) hne (by omega)).trans (hb.block k hk)⟩
/-- a cell that is laid what it holds -/
theorem set_same {w : World} {b k : Nat} {cs : Array Value} {t : TypeId} {v : Value} (h : w.heap[b]? = some (.cells cs t (0, 0))) (hc : w.cell? ⟨b, k, none⟩ = some v) : w.setCell ⟨b, k, none⟩ v = w := by
  rw [lit_cell h] at hc
  have e : (w.setCell ⟨b, k, none⟩ v).heap = w.heap := by
    apply Array.ext_getElem?
    intro c
    by_cases hcb : c = b
    · subst hcb
      have e2 : cs.setIfInBounds k v = cs := by
        apply Array.ext_getElem?
        intro j
        rw [Array.getElem?_setIfInBounds]
        split
        · rename_i hj; subst hj
          rw [hc, if_pos (Array.getElem?_eq_some_iff.1 hc).1]
        · rfl
      rw [lit_set v h, h, e2]
    · exact lit_far v hcb
  show { w with heap := (w.setCell ⟨b, k, none⟩ v).heap } = w
  rw [e]
set_option maxRecDepth 100000 in
set_option maxHeartbeats 4000000 in
theorem things2_any (rb kk : Nat) (S : (List UInt8)) (a : Nat) (w : World) (h : RdS rb S a w) (hgl : 4 ≤ rb) (hkr : kk ≠ rb) (hk : w.cell? ⟨kk, 0, none⟩ = some (.func (.func 113) #[] #[])) :
    Calls Tryz.prog 171 #[.agg #[.pointer (some ⟨rb, 0, none⟩)], .pointer (some ⟨kk, 0, none⟩)] w (ERdR rb S a w (revC.get (S.drop a) a)) := by
  have hkk : kk < w.heap.size := World.block_lt_of_cell? w _ hk
  have hrb := h.lt
  have hb0 : Below w.heap.size w ((w.alloc (.cells #[.pointer (some ⟨rb, 0, none⟩)] 158)).alloc (.cells (revQ ⟨zRev, none, 0, none, 0⟩).toArray 93)) := (by0 w _).alloc (by simp) _
  have hz0 : ((w.alloc (.cells #[.pointer (some ⟨rb, 0, none⟩)] 158)).alloc (.cells (revQ ⟨zRev, none, 0, none, 0⟩).toArray 93)).heap.size = w.heap.size + 1 + 1 := by simp
  have hr0 : ((w.alloc (.cells #[.pointer (some ⟨rb, 0, none⟩)] 158)).alloc (.cells (revQ ⟨zRev, none, 0, none, 0⟩).toArray 93)).heap[w.heap.size]? = some (.cells #[.pointer (some ⟨rb, 0, none⟩)] 158 (0, 0)) := lit_old _ (heap_alloc_new w _)
  have hx0 : ((w.alloc (.cells #[.pointer (some ⟨rb, 0, none⟩)] 158)).alloc (.cells (revQ ⟨zRev, none, 0, none, 0⟩).toArray 93)).heap[w.heap.size + 1]? = some (.cells (revQ ⟨zRev, none, 0, none, 0⟩).toArray 93 (0, 0)) := by
    rw [show w.heap.size + 1 = (w.alloc (.cells #[.pointer (some ⟨rb, 0, none⟩)] 158)).heap.size by simp]; exact heap_alloc_new _ _
  have HB0 := Lib.hid hb0
  have HZ0 := Lib.hid hz0
  have HR0 := Lib.hid hr0
  have HX0 := Lib.hid hx0
  have HK := Lib.hid hk
  have HKK := Lib.hid hkk
  have HRB := Lib.hid hrb
  have HH := Lib.hid h
  have HGL := Lib.hid hgl
  have HKR := Lib.hid hkr
  clear hb0 hz0 hr0 hx0 hk hkk hrb h hgl hkr
  go_enter Tryz.func171, Tryz.ntmps171
  go_upto_region 1 with fail
  change Code.wp _ _ _ _ ((w.alloc (.cells #[.pointer (some ⟨rb, 0, none⟩)] 158)).alloc (.cells (revQ ⟨zRev, none, 0, none, 0⟩).toArray 93))
  generalize (w.alloc (.cells #[.pointer (some ⟨rb, 0, none⟩)] 158)).alloc (.cells (revQ ⟨zRev, none, 0, none, 0⟩).toArray 93) = w1 at *
  have hk1 : w1.drew.cell? ⟨kk, 0, none⟩ = some (.func (.func 113) #[] #[]) := (World.cell?_of_block (a := ⟨kk, 0, none⟩) (HB0.out.drew.block kk HKK.out)).trans HK.out
  have r1 : w1.drew.cell? ⟨w.heap.size, 0, none⟩ = some (.pointer (some ⟨rb, 0, none⟩)) := (lit_cell (w := w1.drew) HR0.out 0).trans rfl
  have hb1 := HB0.out.drew
  have hz1 : w1.drew.heap.size = w.heap.size + 1 + 1 := HZ0.out
  have hx1 : w1.drew.heap[w.heap.size + 1]? = some (.cells (revQ ⟨zRev, none, 0, none, 0⟩).toArray 93 (0, 0)) := HX0.out
  refine wp_region_held_drew (S := fun w' => w'.cell? ⟨w.heap.size, 0, none⟩ = some (.pointer (some ⟨rb, 0, none⟩)) ∧ w'.cell? ⟨kk, 0, none⟩ = some (.func (.func 113) #[] #[])) (by kernel_rfl) ⟨r1, hk1⟩ (fun hH => ?_)
  generalize w1.drew = w3 at *
  have HB3 := Lib.hid hb1
  have HZ3 := Lib.hid hz1
  have HX3 := Lib.hid hx1
  have HR := Lib.hid (rev_mk w3.heap.size (w.heap.size + 1) 0 w3 (Nat.le_refl _))
  clear hb1 hz1 hx1 hk1 r1 HB0 HZ0 HR0 HX0
  refine wpAnyH_take (i := 0) (oi := ⟨some 4, .load 158 (.tmp 2), _, _, _, none⟩) (v := .agg #[.pointer (some ⟨rb, 0, none⟩)]) rfl (by kernel_rfl) (by kernel_rfl) (by kernel_rfl) (fun _ _ _ h => h) (Or.inl ⟨by rfl, fun w1 hS => by have c0 := hS.1; go_simp⟩) hH ?_
  try simp only [Act.put, List.setIfInBounds_toArray, List.set_cons_succ, List.set_cons_zero]
  refine wpAnyH_take (i := 1) (oi := ⟨some 5, .load 199 (.tmp 1), _, _, _, none⟩) (v := .func (.func 113) #[] #[]) rfl (by kernel_rfl) (by kernel_rfl) (by kernel_rfl) (fun _ _ _ h => h) (Or.inl ⟨by rfl, fun w1 hS => by have c0 := hS.2; go_simp⟩) hH ?_
  try simp only [Act.put, List.setIfInBounds_toArray, List.set_cons_succ, List.set_cons_zero]
  refine wpAnyH_ready (rs := [2]) (by kernel_rfl) (by simp) (AllReadyH.cons (o := ⟨some 6, .call ⟨.value (.tmp 5), #[.tmp 3], #[_]⟩, _, _, _, none⟩) rfl (fun K hK => ?_) AllReadyH.nil)
  have HK := Lib.hid hK
  clear hK
  go_simp
  refine HR.out.mono ?_
  rintro e w4 ⟨fb, fs, rfl, hK4, hb4⟩
  have hz3 := HZ3.out
  have hr3 := HRB.out
  have hg3 := HGL.out
  have hs4 := hb4.size
  have hH4 : w4.cell? ⟨w.heap.size, 0, none⟩ = some (.pointer (some ⟨rb, 0, none⟩)) ∧ w4.cell? ⟨kk, 0, none⟩ = some (.func (.func 113) #[] #[]) := ⟨(World.cell?_of_block (a := ⟨w.heap.size, 0, none⟩) (hb4.block w.heap.size (by omega))).trans hH.1, (World.cell?_of_block (a := ⟨kk, 0, none⟩) (hb4.block kk (by have := HKK.out; omega))).trans hH.2⟩
  have hb04 := HB3.out.trans (hb4.mono HB3.out.size)
  have hR4 := HH.out.next hb04
  obtain ⟨xs, hfs, hxn, hxg, hxf, hxfin⟩ := rev_rd (B := w.heap.size) (S := S) (rb := rb) hK4 (by omega) (by omega) hR4.s ⟨by omega, by omega⟩ (by omega)
  have hX4 := (hb4.block (w.heap.size + 1) (by omega)).trans HX3.out
  have hrow := wrow_any w4 rb (w.heap.size + 1) fb 0 3 S (RpRev w.heap.size rb (w.heap.size + 1)) (fun p u u' h ho => h.next (by omega) (Duo.only ho)) xs hxf zRev (by rw [hxg]; exact rev_flds) a w4 (by omega) hR4.s (by rw [hxn]; decide) (by rw [← hfs]; exact hK4.r.row) (lit_lt hK4.r) (by have := hK4.l; omega) (by omega) ⟨Duo.refl _ _ _, hR4.g, ⟨⟨by omega, by omega⟩, none, 0, none, 0, hX4, .inl ⟨rfl, rfl, rfl⟩, .inl ⟨rfl, rfl, rfl⟩⟩, hR4.r, hR4.a⟩
  rw [hxg, mapG_congr rev_flds hxfin, hxn] at hrow
  have HROW := Lib.hid hrow
  have HB04 := Lib.hid hb04
  have HS4 := Lib.hid hs4
  clear hrow hfs hxn hxg hxf hxfin hK4 hb4 hb04 hR4 hX4 hz3 hr3 hg3 hs4
  refine HK.out.out _ _ hH4 (fun _ => ?_)
  clear HK K
  try simp only [Act.put, List.setIfInBounds_toArray, List.set_cons_succ, List.set_cons_zero]
  refine wpAnyH_ready (rs := [3]) (by kernel_rfl) (by simp) (AllReadyH.cons (o := ⟨some 7, .call ⟨.value (.func 87), #[.tmp 4, .tmp 6], #[158, 95]⟩, _, _, _, none⟩) rfl (fun K hK => ?_) AllReadyH.nil)
  have HK := Lib.hid hK
  clear hK
  go_simp
  refine HROW.out.mono ?_
  intro e w5 h5
  change Read rb (w.heap.size + 1) S (RpRev w.heap.size rb (w.heap.size + 1)) a w4.heap.size w4 (revC.get (S.drop a) a) e w5 at h5
  have hz3 := HZ3.out
  have hs4 := HS4.out
  cases hres : revC.get (S.drop a) a with
  | error f =>
    obtain ⟨c, b⟩ := f
    rw [hres] at h5
    obtain ⟨hc, ⟨g, hg, rfl, hf0, hf1⟩, hd, _⟩ := h5
    exact ⟨rfl, hc, ⟨g, by omega, rfl, hf0, hf1⟩, only_duo HB04.out hd (by omega)⟩
  | ok q =>
    obtain ⟨q, k⟩ := q
    rw [hres] at h5
    obtain ⟨rfl, ⟨_, wa, wc, pa, pc, hq, hO1, hO2⟩, hR5, hk, hd⟩ := h5
    have HO1 := Lib.hid hO1.loose
    have HO2 := Lib.hid hO2.loose
    have HOW := Lib.hid (only_duo HB04.out hd (by omega))
    have HR5 := Lib.hid hR5
    have HK5 := Lib.hid hk
    have HQ := Lib.hid hq
    have HRES := Lib.hid hres
    have hrr := HRB.out
    have hH5 : w5.cell? ⟨w.heap.size, 0, none⟩ = some (.pointer (some ⟨rb, 0, none⟩)) ∧ w5.cell? ⟨kk, 0, none⟩ = some (.func (.func 113) #[] #[]) := ⟨(World.cell?_of_block (a := ⟨w.heap.size, 0, none⟩) (hd.block w.heap.size (by omega) (by omega) (by omega))).trans hH4.1, (World.cell?_of_block (a := ⟨kk, 0, none⟩) (hd.block kk (by have := HKK.out; omega) HKR.out (by have := HKK.out; omega))).trans hH4.2⟩
    refine HK.out.out _ _ hH5 (fun _ => ?_)
    clear HK K
    try simp only [Act.put, List.setIfInBounds_toArray, List.set_cons_succ, List.set_cons_zero]
    refine wpAnyH_done (by kernel_rfl) ?_ _
    have hc : ∀ j, j < 11 → w5.cell? ⟨w.heap.size + 1, 0 + j, none⟩ = (revQ ⟨q, wa, wc, pa, pc⟩)[j]? := fun j _ => by rw [lit_cell hq, Nat.zero_add, List.getElem?_toArray]
    obtain ⟨c0, c1, c2, c3, c4, c5, c6, c7, c8, c9, c10⟩ := rev_cells hc
    simp only [Nat.zero_add] at c1 c2 c3 c4 c5 c6 c7 c8 c9 c10
    clear hc hq hO1 hO2 hR5 hk hd hH5 hH4 hH hrr hz3 hs4 hres
    have f0 := lit_free HQ.out 0; have f1 := lit_free HQ.out 1; have f2 := lit_free HQ.out 2; have f3 := lit_free HQ.out 3; have f4 := lit_free HQ.out 4; have f5 := lit_free HQ.out 5; have f6 := lit_free HQ.out 6; have f7 := lit_free HQ.out 7; have f8 := lit_free HQ.out 8; have f9 := lit_free HQ.out 9; have f10 := lit_free HQ.out 10
    go_wp2
    rw [set_same HQ.out c0, set_same HQ.out c1, set_same HQ.out c2, set_same HQ.out c3, set_same HQ.out c4, set_same HQ.out c5, set_same HQ.out c6, set_same HQ.out c7, set_same HQ.out c8, set_same HQ.out c9, set_same HQ.out c10]
    refine bodyPost_ret (v := revV ⟨q, wa, wc, pa, pc⟩) (by simp [results, Tryz.results171, go_sem, c0, c1, c2, c3, c4, c5, c6, c7, c8, c9, c10]) rfl ?_
    rw [HRES.out]
    exact ⟨⟨⟨q, wa, wc, pa, pc⟩, rfl, rfl, HO1.out, HO2.out⟩, HR5.out, HK5.out, HOW.out⟩
end Go.Proofs.YtbkiijndhjmkdaaGreatDoor
