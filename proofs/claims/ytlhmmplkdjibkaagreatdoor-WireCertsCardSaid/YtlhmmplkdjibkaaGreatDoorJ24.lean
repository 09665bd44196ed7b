/- A Reveal: its row reads. -/
import Derived.Test.YtlhmmplkdjibkaaGreatDoorJ16
namespace Go.Proofs.YtlhmmplkdjibkaaGreatDoor
open Go.RowKit

/-- a Reveal in the block t -/
structure RpRev (B rb t : Nat) (p : RevR) (w : World) : Prop where
  b : B ≤ w.heap.size + 1 ∧ rb < w.heap.size + 1
  h : ∃ wa wc pa pc, w.heap[t]? = some (.cells (revQ ⟨p, wa, wc, pa, pc⟩).toArray 57 (0, 0)) ∧ OwnS B rb t wa wc p.slot.sig.wots w ∧ OwnS B rb t pa pc p.slot.sig.path w
theorem RpRev.next {B rb t : Nat} {p : RevR} {w w' : World} (hrt : t ≠ rb) (h : RpRev B rb t p w) (hd : Duo rb rb w w') : RpRev B rb t p w' := by
  obtain ⟨⟨hB, hrb⟩, wa, wc, pa, pc, h1, h2, h3⟩ := h
  have hs := hd.size
  exact ⟨⟨by omega, by omega⟩, wa, wc, pa, pc, (hd.block t (lit_lt h1) hrt hrt).trans h1, h2.next hd.weak, h3.next hd.weak⟩
theorem rev_pos_l {B rb t : Nat} : NumL rb t 0 57 (RpRev B rb t) (·.pos) (fun p v => { p with pos := v }) := by
  intro s w hp
  obtain ⟨⟨hB, hrb⟩, wa, wc, pa, pc, h1, h2, h3⟩ := hp
  refine ⟨_, h1, rfl, fun v w' hd ht => ?_⟩
  have hs := hd.size
  exact ⟨⟨by omega, by omega⟩, wa, wc, pa, pc, ht, h2.next hd, h3.next hd⟩
theorem rev_part_root_l {B rb t : Nat} (p : RevR) : DigL rb t 6 57 (fun s w => RpRev B rb t { p with part := s } w) (·.root) (fun p v => { p with root := v }) := by
  intro s w hp
  obtain ⟨⟨hB, hrb⟩, wa, wc, pa, pc, h1, h2, h3⟩ := hp
  refine ⟨_, h1, rfl, fun v w' hd ht => ?_⟩
  have hs := hd.size
  exact ⟨⟨by omega, by omega⟩, wa, wc, pa, pc, ht, h2.next hd, h3.next hd⟩
theorem rev_part_weight_l {B rb t : Nat} (p : RevR) : NumL rb t 7 57 (fun s w => RpRev B rb t { p with part := s } w) (·.weight) (fun p v => { p with weight := v }) := by
  intro s w hp
  obtain ⟨⟨hB, hrb⟩, wa, wc, pa, pc, h1, h2, h3⟩ := hp
  refine ⟨_, h1, rfl, fun v w' hd ht => ?_⟩
  have hs := hd.size
  exact ⟨⟨by omega, by omega⟩, wa, wc, pa, pc, ht, h2.next hd, h3.next hd⟩
theorem rev_part_first_l {B rb t : Nat} (p : RevR) : NumL rb t 8 57 (fun s w => RpRev B rb t { p with part := s } w) (·.first) (fun p v => { p with first := v }) := by
  intro s w hp
  obtain ⟨⟨hB, hrb⟩, wa, wc, pa, pc, h1, h2, h3⟩ := hp
  refine ⟨_, h1, rfl, fun v w' hd ht => ?_⟩
  have hs := hd.size
  exact ⟨⟨by omega, by omega⟩, wa, wc, pa, pc, ht, h2.next hd, h3.next hd⟩
theorem rev_part_life_l {B rb t : Nat} (p : RevR) : NumL rb t 9 57 (fun s w => RpRev B rb t { p with part := s } w) (·.life) (fun p v => { p with life := v }) := by
  intro s w hp
  obtain ⟨⟨hB, hrb⟩, wa, wc, pa, pc, h1, h2, h3⟩ := hp
  refine ⟨_, h1, rfl, fun v w' hd ht => ?_⟩
  have hs := hd.size
  exact ⟨⟨by omega, by omega⟩, wa, wc, pa, pc, ht, h2.next hd, h3.next hd⟩
theorem rev_part_keys_l {B rb t : Nat} (p : RevR) : NumL rb t 10 57 (fun s w => RpRev B rb t { p with part := s } w) (·.keys) (fun p v => { p with keys := v }) := by
  intro s w hp
  obtain ⟨⟨hB, hrb⟩, wa, wc, pa, pc, h1, h2, h3⟩ := hp
  refine ⟨_, h1, rfl, fun v w' hd ht => ?_⟩
  have hs := hd.size
  exact ⟨⟨by omega, by omega⟩, wa, wc, pa, pc, ht, h2.next hd, h3.next hd⟩
theorem rev_slot_l_l {B rb t : Nat} (p : RevR) : NumL rb t 1 57 (fun s w => RpRev B rb t { p with slot := s } w) (·.l) (fun p v => { p with l := v }) := by
  intro s w hp
  obtain ⟨⟨hB, hrb⟩, wa, wc, pa, pc, h1, h2, h3⟩ := hp
  refine ⟨_, h1, rfl, fun v w' hd ht => ?_⟩
  have hs := hd.size
  exact ⟨⟨by omega, by omega⟩, wa, wc, pa, pc, ht, h2.next hd, h3.next hd⟩
theorem rev_slot_signed_l {B rb t : Nat} (p : RevR) : YesL rb t 2 57 (fun s w => RpRev B rb t { p with slot := s } w) (·.signed) (fun p v => { p with signed := v }) := by
  intro s w hp
  obtain ⟨⟨hB, hrb⟩, wa, wc, pa, pc, h1, h2, h3⟩ := hp
  refine ⟨_, h1, rfl, fun v w' hd ht => ?_⟩
  have hs := hd.size
  exact ⟨⟨by omega, by omega⟩, wa, wc, pa, pc, ht, h2.next hd, h3.next hd⟩
theorem rev_sig_index_l {B rb t : Nat} (p : RevR) (q : SlotR) : NumL rb t 3 57 (fun s w => RpRev B rb t { p with slot := { q with sig := s } } w) (·.index) (fun p v => { p with index := v }) := by
  intro s w hp
  obtain ⟨⟨hB, hrb⟩, wa, wc, pa, pc, h1, h2, h3⟩ := hp
  refine ⟨_, h1, rfl, fun v w' hd ht => ?_⟩
  have hs := hd.size
  exact ⟨⟨by omega, by omega⟩, wa, wc, pa, pc, ht, h2.next hd, h3.next hd⟩
theorem rev_sig_wots_l {B rb t : Nat} (p : RevR) (q : SlotR) : ListL 9 1 RelS rb t 4 57 (fun s w => RpRev B rb t { p with slot := { q with sig := s } } w) (·.wots) (fun p v => { p with wots := v }) := by
  intro s w hp
  obtain ⟨⟨hB, hrb⟩, wa, wc, pa, pc, h1, h2, h3⟩ := hp
  refine ⟨_, wa, wc, h1, rfl, fun e => h2.nil e, fun l v xs w' hd ht ho hx => ?_⟩
  have hs := hd.size
  obtain ⟨ao, cp, rfl, hO⟩ := OwnS.of_own (B := B) (rb := rb) (t := t) ho hx.1 hx.2 hB hrb (by have := lit_lt h1; omega)
  exact ⟨⟨by omega, by omega⟩, ao, cp, pa, pc, ht, hO, h3.next hd⟩
theorem rev_sig_path_l {B rb t : Nat} (p : RevR) (q : SlotR) : ListL 9 1 RelS rb t 5 57 (fun s w => RpRev B rb t { p with slot := { q with sig := s } } w) (·.path) (fun p v => { p with path := v }) := by
  intro s w hp
  obtain ⟨⟨hB, hrb⟩, wa, wc, pa, pc, h1, h2, h3⟩ := hp
  refine ⟨_, pa, pc, h1, rfl, fun e => h3.nil e, fun l v xs w' hd ht ho hx => ?_⟩
  have hs := hd.size
  obtain ⟨ao, cp, rfl, hO⟩ := OwnS.of_own (B := B) (rb := rb) (t := t) ho hx.1 hx.2 hB hrb (by have := lit_lt h1; omega)
  exact ⟨⟨by omega, by omega⟩, wa, wc, ao, cp, ht, h2.next hd, hO⟩
/-- a Part's row reads, whatever the Reveal around it -/
theorem rpart_rd {w0 : World} {lo rb t fb B : Nat} {S : (List UInt8)} {fs : List FV} (hK : PartK lo t 6 fb fs w0) (hlo : rb < lo ∧ t < lo) (hrt : t ≠ rb) (hS : S.length ≤ 1000000) : ∃ xs : List (RW PartR), fs = xs.map (·.f) ∧ xs.length = 5 ∧ xs.map (·.g) = partFs ∧ (∀ p : RevR, ∀ x ∈ xs, ReadF w0 rb t S (fun s w => RpRev B rb t { p with part := s } w) x) ∧ ∀ p, okV partFs p → (!xs.any fun x => x.f.needed && !(x.g.view p).isSome) = (!p.root.isEmpty) := by
  obtain ⟨⟨k0, k1, k2, k3, k4, rfl, h0, h1, h2, h3, h4⟩, _, _⟩ := hK
  refine ⟨[⟨numFV 102 k0, numFld 102 (·.first) (fun p v => { p with first := v }), numRd⟩, ⟨numFV 107 k1, numFld 107 (·.keys) (fun p v => { p with keys := v }), numRd⟩, ⟨numFV 108 k2, numFld 108 (·.life) (fun p v => { p with life := v }), numRd⟩, ⟨digFV 114 k3, digFld 114 (·.root) (fun p v => { p with root := v }), digRd⟩, ⟨numFV 119 k4, numFld 119 (·.weight) (fun p v => { p with weight := v }), numRd⟩], rfl, rfl, rfl, fun p x hx => ?_, fun p _ => ?_⟩
  · simp only [List.mem_cons, List.not_mem_nil, or_false] at hx
    rcases hx with rfl | rfl | rfl | rfl | rfl
    · exact read_num (T := 57) h0 hlo hrt hS (rev_part_first_l p) (fun p h => by cases p; simp_all)
    · exact read_num (T := 57) h1 hlo hrt hS (rev_part_keys_l p) (fun p h => by cases p; simp_all)
    · exact read_num (T := 57) h2 hlo hrt hS (rev_part_life_l p) (fun p h => by cases p; simp_all)
    · exact read_dig (T := 57) h3 hlo hrt hS (rev_part_root_l p)
    · exact read_num (T := 57) h4 hlo hrt hS (rev_part_weight_l p) (fun p h => by cases p; simp_all)
  · simp only [List.any_cons, List.any_nil, numFld, digFld, Bool.false_and, Bool.true_and, Bool.or_false, Bool.false_or]
    simp only [dig_some]
    generalize p.root.isEmpty = a0
    cases a0 <;> rfl
theorem rsig_rd {w0 : World} {lo rb t fb B : Nat} {S : (List UInt8)} {fs : List FV} (hK : SigK lo t 3 fb fs w0) (hlo : rb < lo ∧ t < lo) (hrt : t ≠ rb) (hS : S.length ≤ 1000000) (hG : 4 ≤ rb ∧ 4 ≤ t) : ∃ xs : List (RW SigR), fs = xs.map (·.f) ∧ xs.length = 3 ∧ xs.map (·.g) = sigFs ∧ (∀ p : RevR, ∀ q : SlotR, ∀ x ∈ xs, ReadF w0 rb t S (fun s w => RpRev B rb t { p with slot := { q with sig := s } } w) x) ∧ ∀ s, (!xs.any fun x => x.f.needed && !(x.g.view s).isSome) = true := by
  obtain ⟨⟨k0, k1, k2, rfl, h0, h1, h2⟩, _, _⟩ := hK
  refine ⟨[⟨numFV 105 k0, numFld 105 (·.index) (fun p v => { p with index := v }), numRd⟩, ⟨listSFV 112 k1, listFld 112 16 (by decide) digC (·.path) (fun p v => { p with path := v }), lrd 16 digG⟩, ⟨listSFV 118 k2, listFld 118 67 (by decide) digC (·.wots) (fun p v => { p with wots := v }), lrd 67 digG⟩], rfl, rfl, rfl, fun p q x hx => ?_, fun p => ?_⟩
  · simp only [List.mem_cons, List.not_mem_nil, or_false] at hx
    rcases hx with rfl | rfl | rfl
    · exact read_num (T := 57) h0 hlo hrt hS (rev_sig_index_l p q) (fun p h => by cases p; simp_all)
    · exact read_strs (T := 57) (by decide) h1 hlo hrt hS hG (rev_sig_path_l p q) (fun p h => by cases p; simp_all)
    · exact read_strs (T := 57) (by decide) h2 hlo hrt hS hG (rev_sig_wots_l p q) (fun p h => by cases p; simp_all)
  · rfl
set_option maxRecDepth 100000 in
theorem rslot_rd {w0 : World} {lo rb t fb B : Nat} {S : (List UInt8)} {fs : List FV} (hK : SlotK lo t 1 fb fs w0) (hlo : rb < lo ∧ t < lo) (hrt : t ≠ rb) (hS : S.length ≤ 1000000) (hG : 4 ≤ rb ∧ 4 ≤ t) (ht : t < w0.heap.size) : ∃ xs : List (RW SlotR), fs = xs.map (·.f) ∧ xs.length = 3 ∧ xs.map (·.g) = slotFs ∧ (∀ p : RevR, ∀ x ∈ xs, ReadF w0 rb t S (fun s w => RpRev B rb t { p with slot := s } w) x) ∧ ∀ p, (!xs.any fun x => x.f.needed && !(x.g.view p).isSome) = true := by
  obtain ⟨⟨k0, fb0, k1, k2, rfl, h0, ⟨fs0, hK0⟩, h1, h2⟩, _, _⟩ := hK
  obtain ⟨ys, hfs, hyn, hyg, hyf, hyfin⟩ := rsig_rd (B := B) hK0 hlo hrt hS hG
  refine ⟨[⟨thingFV 103 false k0, nzFld 103 sigC sigZ (·.sig) (fun p v => { p with sig := v }), thRd sigC sigZ⟩, ⟨numFV 108 k1, numFld 108 (·.l) (fun p v => { p with l := v }), numRd⟩, ⟨yesFV 115 k2, yesFld 115 (·.signed) (fun p v => { p with signed := v }), yesRd⟩], rfl, rfl, rfl, fun p x hx => ?_, fun p => ?_⟩
  · simp only [List.mem_cons, List.not_mem_nil, or_false] at hx
    rcases hx with rfl | rfl | rfl
    · refine read_thing (xs := ys) (zero := zSig) (lo := lo) (fb := fb0) (by rw [hyn]; exact h0) (by rw [← hfs]; exact hK0.r) hK0.l hlo hS hG ht (by rw [hyg]; exact sig_flds) (hyf p) (fun p w w' h hd => h.next hrt hd) (fun left a => ?_) (fun s => by rw [any_g, hyg]; exact sigZ_any s) (fun s h => sigZ_zero h) (fun p => rfl)
      rw [hyg]
      exact mapG_congr sig_flds (fun s _ => hyfin s) left a
    · exact read_num (T := 57) h1 hlo hrt hS (rev_slot_l_l p) (fun p h => by cases p; simp_all)
    · exact read_yes (T := 57) h2 hlo hrt hS (rev_slot_signed_l p) (fun p h => by cases p; simp_all)
  · rfl
theorem partZ_any (s : PartR) : partZ s = !partFs.any fun g => (g.view s).isSome := by
  obtain ⟨r, a, b, c, d⟩ := s
  simp only [partFs, List.any_cons, List.any_nil, numFld, digFld, partZ, Bool.or_false]
  cases r <;> cases a <;> cases b <;> cases c <;> cases d <;> rfl
theorem partZ_zero {s : PartR} (h : partZ s = true) : s = zPart := by
  obtain ⟨r, a, b, c, d⟩ := s
  cases r <;> cases a <;> cases b <;> cases c <;> cases d <;> first | rfl | (simp [partZ] at h)
theorem slotZ_any (s : SlotR) : slotZ s = !slotFs.any fun g => (g.view s).isSome := by
  obtain ⟨l, b, g⟩ := s
  simp only [slotFs, List.any_cons, List.any_nil, numFld, yesFld, nzFld, slotZ, Bool.or_false]
  generalize sigZ g = z
  cases l <;> cases b <;> cases z <;> rfl
theorem slotZ_zero {s : SlotR} (h : slotZ s = true) : s = zSlot := by
  obtain ⟨l, b, g⟩ := s
  have h1 : sigZ g = true := by cases hq : sigZ g <;> simp_all [slotZ]
  rw [sigZ_zero h1]
  cases l <;> cases b <;> first | rfl | (simp [slotZ] at h)
end Go.Proofs.YtlhmmplkdjibkaaGreatDoor
/- A Reveal's own row. -/
namespace Go.Proofs.YtlhmmplkdjibkaaGreatDoor
open Go.RowKit

/-- a thing whose reading never answers a zero one -/
theorem ReadF.plain {ρ σ : Type} {w0 : World} {rb t : Nat} {S : (List UInt8)} {Rp : ρ → World → Prop} {f : FV} {c : UInt8} {C : Codec σ} {z : σ → Bool} {of : ρ → σ} {set : ρ → σ → ρ} (h : ReadF w0 rb t S Rp ⟨f, nzFld c C z of set, thRd C z⟩) (hz : ∀ left a v k, C.get left a = .ok (v, k) → z v = false) :
    ReadF w0 rb t S Rp ⟨f, ⟨c, σ, C, fun p => if z (of p) then none else some (of p), set⟩, thRd C z⟩ where
  key := h.key
  tE := h.tE
  rE := h.rE
  get left a := by
    show C.get left a = _
    have e := hz left a
    dsimp only [thRd]
    cases hq : C.get left a with
    | error f => rfl
    | ok q =>
      obtain ⟨v, k⟩ := q
      rw [hq] at e
      dsimp only
      rw [e v k rfl]
      rfl
  there := h.there
  read w p a h1 h2 h3 h4 h5 h6 := by
    have k := h.read w p a h1 h2 h3 h4 h5 h6
    have e : RW.step ⟨f, ⟨c, σ, C, fun p => if z (of p) then none else some (of p), set⟩, thRd C z⟩ p (S.drop a) a = RW.step ⟨f, nzFld c C z of set, thRd C z⟩ p (S.drop a) a := by
      unfold RW.step
      dsimp only [thRd, nzFld]
      cases C.get (S.drop a) a with
      | error f => rfl
      | ok q =>
        obtain ⟨v, j⟩ := q
        dsimp only
        cases z v <;> rfl
    rw [e]
    exact k
set_option maxRecDepth 100000 in
theorem rev_rd {w0 : World} {lo rb t fb B : Nat} {S : (List UInt8)} {fs : List FV} (hK : RevK lo t 0 fb fs w0) (hlo : rb < lo ∧ t < lo) (hrt : t ≠ rb) (hS : S.length ≤ 1000000) (hG : 4 ≤ rb ∧ 4 ≤ t) (ht : t < w0.heap.size) : ∃ xs : List (RW RevR), fs = xs.map (·.f) ∧ xs.length = 3 ∧ xs.map (·.g) = revFs ∧ (∀ x ∈ xs, ReadF w0 rb t S (RpRev B rb t) x) ∧ ∀ p, okV revFs p → (!xs.any fun x => x.f.needed && !(x.g.view p).isSome) = (!p.part.root.isEmpty) := by
  obtain ⟨⟨k0, k1, fb1, k2, fb2, rfl, h0, h1, ⟨fs1, hK1⟩, h2, ⟨fs2, hK2⟩⟩, _, _⟩ := hK
  obtain ⟨ys, hfs, hyn, hyg, hyf, hyfin⟩ := rpart_rd (B := B) hK1 hlo hrt hS
  obtain ⟨zs, gfs, hzn, hzg, hzf, hzfin⟩ := rslot_rd (B := B) hK2 hlo hrt hS hG ht
  refine ⟨[⟨numFV 112 k0, numFld 112 (·.pos) (fun p v => { p with pos := v }), numRd⟩, ⟨thingFV 113 true k1, rpartFld, thRd partC partZ⟩, ⟨thingFV 115 false k2, nzFld 115 slotC slotZ (·.slot) (fun p v => { p with slot := v }), thRd slotC slotZ⟩], rfl, rfl, rfl, fun x hx => ?_, fun p hok => ?_⟩
  · simp only [List.mem_cons, List.not_mem_nil, or_false] at hx
    rcases hx with rfl | rfl | rfl
    · exact read_num (T := 57) h0 hlo hrt hS rev_pos_l (fun p h => by cases p; simp_all)
    · refine ReadF.plain (c := 113) (C := partC) (z := partZ) (of := RevR.part) (set := fun p v => { p with part := v }) (read_thing (xs := ys) (zero := zPart) (lo := lo) (fb := fb1) (by rw [hyn]; exact h1) (by rw [← hfs]; exact hK1.r) hK1.l hlo hS hG ht (by rw [hyg]; exact part_flds) hyf (fun p w w' h hd => h.next hrt hd) (fun left a => ?_) (fun s => by rw [any_g, hyg]; exact partZ_any s) (fun s h => partZ_zero h) (fun p => rfl)) (fun left a v k h => partC_nz (partC.back left a v k h).1)
      rw [hyg]
      exact mapG_congr part_flds hyfin left a
    · refine read_thing (xs := zs) (zero := zSlot) (lo := lo) (fb := fb2) (by rw [hzn]; exact h2) (by rw [← gfs]; exact hK2.r) hK2.l hlo hS hG ht (by rw [hzg]; exact slot_flds) hzf (fun p w w' h hd => h.next hrt hd) (fun left a => ?_) (fun s => by rw [any_g, hzg]; exact slotZ_any s) (fun s h => slotZ_zero h) (fun p => rfl)
      rw [hzg]
      exact mapG_congr slot_flds (fun s _ => hzfin s) left a
  · simp only [List.any_cons, List.any_nil, numFld, rpartFld, nzFld, Bool.false_and, Bool.true_and, Bool.or_false, Bool.false_or]
    have e : partZ p.part = p.part.root.isEmpty := by
      cases hq : partZ p.part with
      | true => rw [partZ_zero hq]; rfl
      | false =>
        have h := (hok rpartFld (by simp [revFs]) p.part (by show (if partZ p.part then none else some p.part) = _; rw [hq]; rfl)).2
        have h2 : (!p.part.root.isEmpty) = true := h
        cases hr : p.part.root.isEmpty <;> simp_all
    rw [← e]
    cases partZ p.part <;> rfl
end Go.Proofs.YtlhmmplkdjibkaaGreatDoor
/- things$2: one Reveal that is read. -/
namespace Go.Proofs.YtlhmmplkdjibkaaGreatDoor
open Go.RowKit

/-- a Reveal that a closure reads -/
def ERdR (rb : Nat) (S : (List UInt8)) (a : Nat) (w : World) (res : Res RevR) (e : Ending) (w' : World) : Prop := match res with
  | .ok (p, k) => (∃ y : RevE, y.r = p ∧ e = .returned (revV y) ∧ OwnS w.heap.size rb rb y.wa y.wc y.r.slot.sig.wots w' ∧ OwnS w.heap.size rb rb y.pa y.pc y.r.slot.sig.path w') ∧ RQ rb S (a + k) 10240 w' ∧ a + k ≤ S.length ∧ Only rb w w'
  | .error (c, b) => c ≠ 0 ∧ Up w.heap.size c b e w' ∧ Only rb w w'
theorem OwnS.loose {B rb t cp : Nat} {ao : Option Addr} {L : List (List UInt8)} {w : World} (h : OwnS B rb t ao cp L w) : OwnS B rb rb ao cp L w := by
  rcases h with h | ⟨b, h0, h1, h2, h3, h4, h5, h6⟩
  · exact .inl h
  · exact .inr ⟨b, h0, h1, h2, h3, h3, h5, h6⟩
theorem only_duo {rb t : Nat} {w w1 w' : World} (hb : Below w.heap.size w w1) (hd : Duo rb t w1 w') (ht : w.heap.size ≤ t) : Only rb w w' :=
  ⟨hd.os.trans hb.os, hd.tape.trans hb.tape, hd.output.trans hb.output, Nat.le_trans hb.size hd.size, fun k hk hne => (hd.block k (Nat.lt_of_lt_of_le hk hb.size) hne (by omega)).trans (hb.block k hk)⟩
/-- a cell that is laid what it holds -/
theorem set_same {w : World} {b k : Nat} {cs : Array Value} {t : TypeId} {v : Value} (h : w.heap[b]? = some (.cells cs t (0, 0))) (hc : w.cell? ⟨b, k, none⟩ = some v) : w.setCell ⟨b, k, none⟩ v = w := by
  rw [lit_cell h] at hc
  have e : (w.setCell ⟨b, k, none⟩ v).heap = w.heap := by
    apply Array.ext_getElem?
    intro c
    by_cases hcb : c = b
    · subst hcb
      have e2 : cs.setIfInBounds k v = cs := by
        apply Array.ext_getElem?
        intro j
        rw [Array.getElem?_setIfInBounds]
        split
        · rename_i hj; subst hj
          rw [hc, if_pos (Array.getElem?_eq_some_iff.1 hc).1]
        · rfl
      rw [lit_set v h, h, e2]
    · exact lit_far v hcb
  show { w with heap := (w.setCell ⟨b, k, none⟩ v).heap } = w
  rw [e]
set_option maxRecDepth 100000 in
set_option maxHeartbeats 4000000 in
theorem things2_any (rb kk : Nat) (S : (List UInt8)) (a : Nat) (w : World) (h : RdS rb S a w) (hgl : 4 ≤ rb) (hkr : kk ≠ rb) (hk : w.cell? ⟨kk, 0, none⟩ = some (.func (.func 51) #[] #[])) :
    Calls Tryz.prog 102 #[.agg #[.pointer (some ⟨rb, 0, none⟩)], .pointer (some ⟨kk, 0, none⟩)] w (ERdR rb S a w (revC.get (S.drop a) a)) := by
  have hkk : kk < w.heap.size := World.block_lt_of_cell? w _ hk
  have hrb := h.lt
  have hb0 : Below w.heap.size w ((w.alloc (.cells #[.pointer (some ⟨rb, 0, none⟩)] 124)).alloc (.cells (revQ ⟨zRev, none, 0, none, 0⟩).toArray 57)) := (by0 w _).alloc (by simp) _
  have hz0 : ((w.alloc (.cells #[.pointer (some ⟨rb, 0, none⟩)] 124)).alloc (.cells (revQ ⟨zRev, none, 0, none, 0⟩).toArray 57)).heap.size = w.heap.size + 1 + 1 := by simp
  have hr0 : ((w.alloc (.cells #[.pointer (some ⟨rb, 0, none⟩)] 124)).alloc (.cells (revQ ⟨zRev, none, 0, none, 0⟩).toArray 57)).heap[w.heap.size]? = some (.cells #[.pointer (some ⟨rb, 0, none⟩)] 124 (0, 0)) := lit_old _ (heap_alloc_new w _)
  have hx0 : ((w.alloc (.cells #[.pointer (some ⟨rb, 0, none⟩)] 124)).alloc (.cells (revQ ⟨zRev, none, 0, none, 0⟩).toArray 57)).heap[w.heap.size + 1]? = some (.cells (revQ ⟨zRev, none, 0, none, 0⟩).toArray 57 (0, 0)) := by
    rw [show w.heap.size + 1 = (w.alloc (.cells #[.pointer (some ⟨rb, 0, none⟩)] 124)).heap.size by simp]; exact heap_alloc_new _ _
  have HB0 := Lib.hid hb0
  have HZ0 := Lib.hid hz0
  have HR0 := Lib.hid hr0
  have HX0 := Lib.hid hx0
  have HK := Lib.hid hk
  have HKK := Lib.hid hkk
  have HRB := Lib.hid hrb
  have HH := Lib.hid h
  have HGL := Lib.hid hgl
  have HKR := Lib.hid hkr
  clear hb0 hz0 hr0 hx0 hk hkk hrb h hgl hkr
  go_enter Tryz.func102, Tryz.ntmps102
  go_upto_region 1 with fail
  change Code.wp _ _ _ _ ((w.alloc (.cells #[.pointer (some ⟨rb, 0, none⟩)] 124)).alloc (.cells (revQ ⟨zRev, none, 0, none, 0⟩).toArray 57))
  generalize (w.alloc (.cells #[.pointer (some ⟨rb, 0, none⟩)] 124)).alloc (.cells (revQ ⟨zRev, none, 0, none, 0⟩).toArray 57) = w1 at *
  have hk1 : w1.drew.cell? ⟨kk, 0, none⟩ = some (.func (.func 51) #[] #[]) := (World.cell?_of_block (a := ⟨kk, 0, none⟩) (HB0.out.drew.block kk HKK.out)).trans HK.out
  have r1 : w1.drew.cell? ⟨w.heap.size, 0, none⟩ = some (.pointer (some ⟨rb, 0, none⟩)) := (lit_cell (w := w1.drew) HR0.out 0).trans rfl
  have hb1 := HB0.out.drew
  have hz1 : w1.drew.heap.size = w.heap.size + 1 + 1 := HZ0.out
  have hx1 : w1.drew.heap[w.heap.size + 1]? = some (.cells (revQ ⟨zRev, none, 0, none, 0⟩).toArray 57 (0, 0)) := HX0.out
  refine wp_region_held_drew (S := fun w' => w'.cell? ⟨w.heap.size, 0, none⟩ = some (.pointer (some ⟨rb, 0, none⟩)) ∧ w'.cell? ⟨kk, 0, none⟩ = some (.func (.func 51) #[] #[])) (by kernel_rfl) ⟨r1, hk1⟩ (fun hH => ?_)
  generalize w1.drew = w3 at *
  have HB3 := Lib.hid hb1
  have HZ3 := Lib.hid hz1
  have HX3 := Lib.hid hx1
  have HR := Lib.hid (rev_mk w3.heap.size (w.heap.size + 1) 0 w3 (Nat.le_refl _))
  clear hb1 hz1 hx1 hk1 r1 HB0 HZ0 HR0 HX0
  refine wpAnyH_take (i := 0) (oi := ⟨some 4, .load 124 (.tmp 2), _, _, _, none⟩) (v := .agg #[.pointer (some ⟨rb, 0, none⟩)]) rfl (by kernel_rfl) (by kernel_rfl) (by kernel_rfl) (fun _ _ _ h => h) (Or.inl ⟨by rfl, fun w1 hS => by have c0 := hS.1; go_simp⟩) hH ?_
  try simp only [Act.put, List.setIfInBounds_toArray, List.set_cons_succ, List.set_cons_zero]
  refine wpAnyH_take (i := 1) (oi := ⟨some 5, .load 115 (.tmp 1), _, _, _, none⟩) (v := .func (.func 51) #[] #[]) rfl (by kernel_rfl) (by kernel_rfl) (by kernel_rfl) (fun _ _ _ h => h) (Or.inl ⟨by rfl, fun w1 hS => by have c0 := hS.2; go_simp⟩) hH ?_
  try simp only [Act.put, List.setIfInBounds_toArray, List.set_cons_succ, List.set_cons_zero]
  refine wpAnyH_ready (rs := [2]) (by kernel_rfl) (by simp) (AllReadyH.cons (o := ⟨some 6, .call ⟨.value (.tmp 5), #[.tmp 3], #[_]⟩, _, _, _, none⟩) rfl (fun K hK => ?_) AllReadyH.nil)
  have HK := Lib.hid hK
  clear hK
  go_simp
  refine HR.out.mono ?_
  rintro e w4 ⟨fb, fs, rfl, hK4, hb4⟩
  have hz3 := HZ3.out
  have hr3 := HRB.out
  have hg3 := HGL.out
  have hs4 := hb4.size
  have hH4 : w4.cell? ⟨w.heap.size, 0, none⟩ = some (.pointer (some ⟨rb, 0, none⟩)) ∧ w4.cell? ⟨kk, 0, none⟩ = some (.func (.func 51) #[] #[]) := ⟨(World.cell?_of_block (a := ⟨w.heap.size, 0, none⟩) (hb4.block w.heap.size (by omega))).trans hH.1, (World.cell?_of_block (a := ⟨kk, 0, none⟩) (hb4.block kk (by have := HKK.out; omega))).trans hH.2⟩
  have hb04 := HB3.out.trans (hb4.mono HB3.out.size)
  have hR4 := HH.out.next hb04
  obtain ⟨xs, hfs, hxn, hxg, hxf, hxfin⟩ := rev_rd (B := w.heap.size) (S := S) (rb := rb) hK4 (by omega) (by omega) hR4.s ⟨by omega, by omega⟩ (by omega)
  have hX4 := (hb4.block (w.heap.size + 1) (by omega)).trans HX3.out
  have hrow := wrow_any w4 rb (w.heap.size + 1) fb 0 3 S (RpRev w.heap.size rb (w.heap.size + 1)) (fun p u u' h ho => h.next (by omega) (Duo.only ho)) xs hxf zRev (by rw [hxg]; exact rev_flds) a w4 (by omega) hR4.s (by rw [hxn]; decide) (by rw [← hfs]; exact hK4.r.row) (lit_lt hK4.r) (by have := hK4.l; omega) (by omega) ⟨Duo.refl _ _ _, hR4.g, ⟨⟨by omega, by omega⟩, none, 0, none, 0, hX4, .inl ⟨rfl, rfl, rfl⟩, .inl ⟨rfl, rfl, rfl⟩⟩, hR4.r, hR4.a⟩
  rw [hxg, mapG_congr rev_flds hxfin, hxn] at hrow
  have HROW := Lib.hid hrow
  have HB04 := Lib.hid hb04
  have HS4 := Lib.hid hs4
  clear hrow hfs hxn hxg hxf hxfin hK4 hb4 hb04 hR4 hX4 hz3 hr3 hg3 hs4
  refine HK.out.out _ _ hH4 (fun _ => ?_)
  clear HK K
  try simp only [Act.put, List.setIfInBounds_toArray, List.set_cons_succ, List.set_cons_zero]
  refine wpAnyH_ready (rs := [3]) (by kernel_rfl) (by simp) (AllReadyH.cons (o := ⟨some 7, .call ⟨.value (.func 60), #[.tmp 4, .tmp 6], #[124, 60]⟩, _, _, _, none⟩) rfl (fun K hK => ?_) AllReadyH.nil)
  have HK := Lib.hid hK
  clear hK
  go_simp
  refine HROW.out.mono ?_
  intro e w5 h5
  change Read rb (w.heap.size + 1) S (RpRev w.heap.size rb (w.heap.size + 1)) a w4.heap.size w4 (revC.get (S.drop a) a) e w5 at h5
  have hz3 := HZ3.out
  have hs4 := HS4.out
  cases hres : revC.get (S.drop a) a with
  | error f =>
    obtain ⟨c, b⟩ := f
    rw [hres] at h5
    obtain ⟨hc, ⟨g, hg, rfl, hf0, hf1⟩, hd, _⟩ := h5
    exact ⟨rfl, hc, ⟨g, by omega, rfl, hf0, hf1⟩, only_duo HB04.out hd (by omega)⟩
  | ok q =>
    obtain ⟨q, k⟩ := q
    rw [hres] at h5
    obtain ⟨rfl, ⟨_, wa, wc, pa, pc, hq, hO1, hO2⟩, hR5, hk, hd⟩ := h5
    have HO1 := Lib.hid hO1.loose
    have HO2 := Lib.hid hO2.loose
    have HOW := Lib.hid (only_duo HB04.out hd (by omega))
    have HR5 := Lib.hid hR5
    have HK5 := Lib.hid hk
    have HQ := Lib.hid hq
    have HRES := Lib.hid hres
    have hrr := HRB.out
    have hH5 : w5.cell? ⟨w.heap.size, 0, none⟩ = some (.pointer (some ⟨rb, 0, none⟩)) ∧ w5.cell? ⟨kk, 0, none⟩ = some (.func (.func 51) #[] #[]) := ⟨(World.cell?_of_block (a := ⟨w.heap.size, 0, none⟩) (hd.block w.heap.size (by omega) (by omega) (by omega))).trans hH4.1, (World.cell?_of_block (a := ⟨kk, 0, none⟩) (hd.block kk (by have := HKK.out; omega) HKR.out (by have := HKK.out; omega))).trans hH4.2⟩
    refine HK.out.out _ _ hH5 (fun _ => ?_)
    clear HK K
    try simp only [Act.put, List.setIfInBounds_toArray, List.set_cons_succ, List.set_cons_zero]
    refine wpAnyH_done (by kernel_rfl) ?_ _
    have hc : ∀ j, j < 11 → w5.cell? ⟨w.heap.size + 1, 0 + j, none⟩ = (revQ ⟨q, wa, wc, pa, pc⟩)[j]? := fun j _ => by rw [lit_cell hq, Nat.zero_add, List.getElem?_toArray]
    obtain ⟨c0, c1, c2, c3, c4, c5, c6, c7, c8, c9, c10⟩ := rev_cells hc
    simp only [Nat.zero_add] at c1 c2 c3 c4 c5 c6 c7 c8 c9 c10
    clear hc hq hO1 hO2 hR5 hk hd hH5 hH4 hH hrr hz3 hs4 hres
    have f0 := lit_free HQ.out 0; have f1 := lit_free HQ.out 1; have f2 := lit_free HQ.out 2; have f3 := lit_free HQ.out 3; have f4 := lit_free HQ.out 4; have f5 := lit_free HQ.out 5; have f6 := lit_free HQ.out 6; have f7 := lit_free HQ.out 7; have f8 := lit_free HQ.out 8; have f9 := lit_free HQ.out 9; have f10 := lit_free HQ.out 10
    go_wp2
    rw [set_same HQ.out c0, set_same HQ.out c1, set_same HQ.out c2, set_same HQ.out c3, set_same HQ.out c4, set_same HQ.out c5, set_same HQ.out c6, set_same HQ.out c7, set_same HQ.out c8, set_same HQ.out c9, set_same HQ.out c10]
    refine bodyPost_ret (v := revV ⟨q, wa, wc, pa, pc⟩) (by simp [results, Tryz.results102, go_sem, c0, c1, c2, c3, c4, c5, c6, c7, c8, c9, c10]) rfl ?_
    rw [HRES.out]
    exact ⟨⟨⟨q, wa, wc, pa, pc⟩, rfl, rfl, HO1.out, HO2.out⟩, HR5.out, HK5.out, HOW.out⟩
end Go.Proofs.YtlhmmplkdjibkaaGreatDoor
/- list[Reveal]$3: Reveals that are read. -/
namespace Go.Proofs.YtlhmmplkdjibkaaGreatDoor
open Go.RowKit

/-- Reveals in a row, and their own lists -/
def RelR (B rb : Nat) (l : List RevR) (xs : List Value) (w : World) : Prop := ∃ ys : List RevE, l = ys.map (·.r) ∧ xs = ys.flatMap revQ ∧ ∀ y ∈ ys, OwnS B rb rb y.wa y.wc y.r.slot.sig.wots w ∧ OwnS B rb rb y.pa y.pc y.r.slot.sig.path w
theorem RelR.only {B rb : Nat} {l : List RevR} {xs : List Value} {w w' : World} (h : RelR B rb l xs w) (ho : Only rb w w') : RelR B rb l xs w' := by
  obtain ⟨ys, h1, h2, h3⟩ := h
  exact ⟨ys, h1, h2, fun y hy => ⟨(h3 y hy).1.next (Duo.only ho), (h3 y hy).2.next (Duo.only ho)⟩⟩
theorem OwnS.carry {B B' rb cp : Nat} {ao : Option Addr} {L : List (List UInt8)} {w w' : World} (h : OwnS B' rb rb ao cp L w) (hB : B ≤ B') (hs : w.heap.size ≤ w'.heap.size) (hk : ∀ k, B' ≤ k → k < w.heap.size → k ≠ rb → (∃ s, w.cell? ⟨k, 0, none⟩ = some (.string s)) → w'.heap[k]? = w.heap[k]?) : OwnS B rb rb ao cp L w' := by
  rcases h with h | ⟨b, h0, h1, h2, h3, h4, h5, h6⟩
  · exact .inl h
  · have hl : 0 < L.length := List.length_pos_iff.2 h0
    have hb := hk b h2 h5 h3 ⟨_, h6 0 hl⟩
    exact .inr ⟨b, h0, h1, by omega, h3, h4, by omega, fun i hi => (World.cell?_of_block (a := ⟨b, i, none⟩) hb).trans (h6 i hi)⟩
theorem RelR.step {B rb t o N : Nat} {T : TypeId} {l : List RevR} {xs : List Value} {v v6 : Value} {w8 w4 w6 : World} {obj : Obj} {y : RevE} (h : RelR B rb l xs w8) (he : Emp l v) (hOW : w8.ownsRow N T 11 v l.length xs) (ho4 : Only rb w8 w4) (hB : t < B ∧ B ≤ w8.heap.size ∧ rb < N) (h1 : OwnS w8.heap.size rb rb y.wa y.wc y.r.slot.sig.wots w4) (h2 : OwnS w8.heap.size rb rb y.pa y.pc y.r.slot.sig.path w4) (hg : (w4.alloc obj).grownBy w6 v.ownBlock) : RelR B rb (l ++ [y.r]) (xs ++ revQ y) (w6.setCell ⟨t, o, none⟩ v6) := by
  have hlt := hOW.lt
  obtain ⟨ys, rfl, rfl, hys⟩ := h
  have hs6 : w4.heap.size ≤ (w6.setCell ⟨t, o, none⟩ v6).heap.size := by have := hg.size; rw [World.size_alloc] at this; simp [World.setCell]; omega
  have keep : ∀ k, B ≤ k → k < w4.heap.size → some k ≠ v.ownBlock → (w6.setCell ⟨t, o, none⟩ v6).heap[k]? = w4.heap[k]? := fun k hk hk4 hne => (lit_far v6 (by omega)).trans ((hg.block k (by rw [World.size_alloc]; omega) hne).trans (heap_alloc_old _ _ hk4))
  have old : ∀ k, (∃ s, w4.cell? ⟨k, 0, none⟩ = some (.string s)) → some k ≠ v.ownBlock := by
    rintro k ⟨s, hs⟩ hk
    obtain ⟨hn, ⟨rfl, _⟩ | ⟨g, cap, cur, rfl, hb, hg0, hc1, hc2, hc3, hc4⟩⟩ := hOW
    · cases hk
    · cases hk
      cases ys with
      | nil => have := he rfl; cases this
      | cons z zs =>
        rw [World.cell?_of_block (a := ⟨g, 0, none⟩) (ho4.block g (lit_lt hg0) (by omega)), lit_cell hg0] at hs
        have e : (cur.toList.take (((z :: zs).map (·.r)).length * 11))[0]? = some (.string s) := by
          rw [List.getElem?_take_of_lt (by simp), Array.getElem?_toList]; exact hs
        rw [hc4, List.flatMap_cons] at e
        cases e
  refine ⟨ys ++ [y], by simp, by simp, fun z hz => ?_⟩
  rcases List.mem_append.1 hz with hz | hz
  · obtain ⟨k1, k2⟩ := hys z hz
    exact ⟨(k1.next (Duo.only ho4)).carry (Nat.le_refl _) hs6 fun k hk hk4 _ hst => keep k hk hk4 (old k hst), (k2.next (Duo.only ho4)).carry (Nat.le_refl _) hs6 fun k hk hk4 _ hst => keep k hk hk4 (old k hst)⟩
  · obtain rfl := List.mem_singleton.1 hz
    have new : ∀ k, w8.heap.size ≤ k → some k ≠ v.ownBlock := fun k hk e => by have := (hlt k e.symm).2; omega
    exact ⟨h1.carry hB.2.1 hs6 fun k hk hk4 _ _ => keep k (by omega) hk4 (new k hk), h2.carry hB.2.1 hs6 fun k hk hk4 _ _ => keep k (by omega) hk4 (new k hk)⟩
theorem rev_new (w : World) (y : RevE) (T : TypeId) : ∀ (j : Nat) (u : Value), (revQ y)[j]? = some u → (w.alloc (.cells (revQ y).toArray T)).cell? ((⟨w.heap.size, 0, none⟩ : Addr).add j) = some u := by
  intro j u hj
  rw [Addr.add_mid, Nat.zero_add, lit_cell (heap_alloc_new w _), List.getElem?_toArray]
  exact hj
theorem rev_one (y : RevE) : ∀ u ∈ revQ y, u.oneCell' = true := by
  intro u hu
  simp only [revQ, List.mem_cons, List.not_mem_nil, or_false] at hu
  rcases hu with rfl | rfl | rfl | rfl | rfl | rfl | rfl | rfl | rfl | rfl | rfl <;> rfl
theorem infoRev : ∃ i0, Tryz.prog.info? 57 = some i0 ∧ i0.zero = some (.agg #[.int .u64 0, .int .u64 0, .bool false, .int .u64 0, .slice none 0 0, .slice none 0 0, .string ⟨#[]⟩, .int .u64 0, .int .u64 0, .int .u64 0, .int .u64 0]) ∧ i0.size = 11 ∧ i0.bytes = 128 := info_parts (by kernel_rfl)

set_option maxRecDepth 100000 in
set_option maxHeartbeats 4000000 in
theorem listR3_any (ka km kr t o rb F most : Nat) (C : Array Value) (T : TypeId) (cs0 : Array Value) (g : (List UInt8) → Nat → Res RevR) (S : (List UInt8)) (a : Nat) (w : World) (hent : Ent F) (hR : RdS rb S a w) (hka : Cap ka t o w) (hkm : w.cell? ⟨km, 0, none⟩ = some (.int .i64 (most : Int))) (hkr : w.cell? ⟨kr, 0, none⟩ = some (.func (.func F) #[] C))
    (ht : w.heap[t]? = some (.cells cs0 T (0, 0))) (ho : cs0[o]? = some (.slice none 0 0)) (hne : ka ≠ rb ∧ ka ≠ t ∧ kr ≠ rb ∧ kr ≠ t ∧ km ≠ rb ∧ t ≠ rb) (hG : 4 ≤ rb ∧ 4 ≤ t) (hm : most ≤ 10240) (B : Nat) (hB : t < B ∧ B ≤ w.heap.size + 1)
    (hE : ∀ a w1, Duo rb t w w1 → RdS rb S a w1 → Calls Tryz.prog F (#[.agg #[.pointer (some ⟨rb, 0, none⟩)]] ++ C) w1 (ERdR rb S a w1 (g (S.drop a) a))) :
    Calls Tryz.prog 156 #[.agg #[.pointer (some ⟨rb, 0, none⟩)], .pointer (some ⟨km, 0, none⟩), .pointer (some ⟨ka, 0, none⟩), .pointer (some ⟨kr, 0, none⟩)] w (LRd 57 11 (RelR B rb) rb t o S a T cs0 w (lraw most g (S.drop a) a)) := by
  have hka0 : ka < w.heap.size := World.block_lt_of_cell? w _ hka
  have hkm0 : km < w.heap.size := World.block_lt_of_cell? w _ hkm
  have hkr0 : kr < w.heap.size := World.block_lt_of_cell? w _ hkr
  have ht0 : t < w.heap.size := lit_lt ht
  have hrb0 := hR.lt
  have h1 := hR.next (by0 w (.cells #[.pointer (some ⟨rb, 0, none⟩)] 124))
  obtain ⟨P, hP⟩ : ∃ P, takeP (S.drop a) 10240 3 = P := ⟨_, rfl⟩
  obtain ⟨hT, hfit, haP⟩ := took4 S a 3 hR.a P hP
  have h0 := reader_c.list rb S a 10240 _ h1.r h1.g h1.s h1.a
  rw [hP] at h0
  have HM := Lib.hid h0
  have HB1 := Lib.hid (by0 w (.cells #[.pointer (some ⟨rb, 0, none⟩)] 124))
  have HN := Lib.hid (heap_alloc_new w (.cells #[.pointer (some ⟨rb, 0, none⟩)] 124))
  have hkm1 := (World.cell?_alloc_lt w (.cells #[.pointer (some ⟨rb, 0, none⟩)] 124) ⟨km, 0, none⟩ hkm0).trans hkm
  have HAP : Hid (Apart ka kr t rb w.heap.size) := Lib.hid ⟨⟨hne.1, hne.2.1⟩, ⟨hne.2.2.1, hne.2.2.2.1⟩, by omega, hne.2.2.2.2.2⟩
  have HL1 : Hid (LAt ka kr t o rb w.heap.size F C (w.alloc (.cells #[.pointer (some ⟨rb, 0, none⟩)] 124))) := Lib.hid ⟨(World.cell?_alloc_lt w _ ⟨ka, 0, none⟩ hka0).trans hka, (World.cell?_alloc_lt w _ ⟨kr, 0, none⟩ hkr0).trans hkr, (lit_cell HN.out 0).trans rfl, by simp; omega⟩
  have HT1 : Hid ((w.alloc (.cells #[.pointer (some ⟨rb, 0, none⟩)] 124)).heap[t]? = some (.cells cs0 T (0, 0))) := Lib.hid (lit_old _ ht)
  have HS1 := Lib.hid h1
  have HLO0 : Hid (ka < w.heap.size ∧ kr < w.heap.size ∧ t < w.heap.size ∧ rb < w.heap.size) := Lib.hid ⟨hka0, hkr0, ht0, hrb0⟩
  have HKM : Hid (km ≠ rb) := Lib.hid hne.2.2.2.2.1
  have HKML : Hid (km < w.heap.size + 1) := Lib.hid (by omega)
  have HCS : Hid (cs0 = cs0.setIfInBounds o (.slice none 0 0)) := Lib.hid (by
    apply Array.ext_getElem?
    intro j
    rw [Array.getElem?_setIfInBounds]
    split
    · rename_i h; subst h
      rw [ho, if_pos (Array.getElem?_eq_some_iff.1 ho).1]
    · rfl)
  have HLT : Hid (o < cs0.size) := Lib.hid (Array.getElem?_eq_some_iff.1 ho).1
  have HENT := Lib.hid hent
  have HE := Lib.hid hE
  have HGL := Lib.hid hG
  have HBB := Lib.hid hB
  clear hB
  have HPM := Lib.hid haP
  have hnl := hfit.n16 (by decide)
  have hal := hR.a
  have HSL := Lib.hid hR.s
  obtain ⟨N, hN⟩ : ∃ N, w.heap.size = N := ⟨_, rfl⟩
  obtain ⟨wA, hwA⟩ : ∃ wA, w.alloc (.cells #[.pointer (some ⟨rb, 0, none⟩)] 124) = wA := ⟨_, rfl⟩
  have HSA : Hid (wA.heap.size = N + 1) := Lib.hid (by rw [← hwA, World.size_alloc, hN])
  rw [hwA] at HM HB1 HN HL1 HT1 HS1 hkm1
  rw [hN] at HN HAP HL1 HKML HLO0
  have HLO : Hid (ka < N ∧ kr < N ∧ t < N ∧ rb < N) := HLO0
  clear HLO0
  have HNN := Lib.hid hN
  have HWA := Lib.hid hwA
  rw [lraw, hT]
  have n0 := (lit_cell HN.out 0).trans rfl
  clear h1 h0 hP hT hfit haP hR hka hkm hkr ht ho hne hE hG hka0 hkm0 hkr0 ht0 hrb0 hN hwA hent
  by_cases hc : P.c = 0
  · rw [if_pos hc]
    simp only
    obtain ⟨n, hn0⟩ : ∃ n, P.n = n := ⟨_, rfl⟩
    obtain ⟨k0, hk0⟩ : ∃ k0, P.m = k0 := ⟨_, rfl⟩
    rw [hn0, hk0, hc] at HM
    rw [hn0] at hnl
    rw [hk0] at HPM
    rw [hn0, hk0, List.drop_drop]
    have n1 : (n : Int) < 65536 := by omega
    have m1 : (most : Int) ≤ 10240 := by omega
    clear hn0 hk0 hc
    by_cases hmn : most < n
    · rw [if_pos hmn]
      have hle : decide (n ≤ most) = false := decide_eq_false (by omega)
      go_enter Tryz.func156, Tryz.ntmps156
      go_upto_region 1 with fail
      rw [HWA.out, HNN.out]
      go_wp2_with (first | (go_at_call 145; refine HM.out.mono ?_; rintro e w2 ⟨v, rfl, hv, hr2, ho2⟩; obtain rfl := hv.nil rfl; have km2 := (World.cell?_of_block (a := ⟨km, 0, none⟩) (ho2.block km (by have := HKML.out; have := HSA.out; omega) HKM.out)).trans hkm1) | (go_at_call 111; refine (sureI_ok _ w2).mono ?_; rintro e w2 ⟨rfl, rfl⟩) | (go_at_call 117; refine (must_no 3 w2).mono ?_; rintro e w3 ⟨⟨f, hf, rfl, hf0, hf1⟩, hb3⟩))
      exact ⟨rfl, by decide, ⟨f, by have := HB1.out.size; have := ho2.size; omega, rfl, hf0, hf1⟩, ((Duo.below HB1.out).trans (Duo.only ho2)).trans (Duo.below hb3), [], .slice none 0 0, [], ((hb3.block t (by have := HL1.out.l; have := ho2.size; omega)).trans ((ho2.block t HL1.out.l.2.2.2 HAP.out.t).trans HT1.out)).trans (by rw [← HCS.out]), World.ownsRow_nil _ _ _ _, ⟨[], rfl, rfl, fun _ h => by cases h⟩, fun _ => rfl⟩
    · rw [if_neg hmn]
      have hle : decide (n ≤ most) = true := decide_eq_true (by omega)
      obtain ⟨M, hM⟩ : ∃ M, app [] k0 (manyG g n (S.drop (a + k0)) (a + k0)) = M := ⟨_, rfl⟩
      rw [hM]
      have HMM := Lib.hid hM
      have HNM : Hid (n ≤ 10240) := Lib.hid (by omega)
      clear hM
      obtain ⟨i0, hi, hz, hs, hby⟩ := infoRev
      go_enter Tryz.func156, Tryz.ntmps156
      go_upto_region 1 with fail
      rw [HWA.out, HNN.out]
      go_upto_region 4 with (first | (go_at_call 145; refine HM.out.mono ?_; rintro e w2 ⟨v, rfl, hv, hr2, ho2⟩; obtain rfl := hv.nil rfl; have km2 := (World.cell?_of_block (a := ⟨km, 0, none⟩) (ho2.block km (by have := HKML.out; have := HSA.out; omega) HKM.out)).trans hkm1; have HO2 := Lib.hid ho2; have HR2 := Lib.hid hr2; clear ho2 hr2) | (go_at_call 111; refine (sureI_ok _ w2).mono ?_; rintro e w2 ⟨rfl, rfl⟩) | (go_at_call 117; refine (must_yes 3 w2).mono ?_; rintro e w2 ⟨rfl, rfl⟩))
      have HD2 : Hid (Duo rb t w w2) := Lib.hid ((Duo.below HB1.out).trans (Duo.only HO2.out))
      have HST2 : Hid (LSt 57 11 (RelR B rb) ka kr t o rb N F C (N + 1) T cs0 S (a + k0) [] w w2) := Lib.hid ⟨HL1.out.only HO2.out HAP.out, ⟨.slice none 0 0, [], ((HO2.out.block t HL1.out.l.2.2.2 HAP.out.t).trans HT1.out).trans (by rw [← HCS.out]), World.ownsRow_nil _ _ _ _, ⟨[], rfl, rfl, fun _ h => by cases h⟩, fun _ => rfl⟩, ⟨HR2.out, HS1.out.g.duo (Duo.only (x := t) HO2.out) HGL.out.1 HGL.out.2, HSL.out, HPM.out⟩, HD2.out, by have := HO2.out.size; have := HSA.out; omega⟩
      clear n0 km2 hkm1 hnl hal HS1 HT1 HL1 HR2
      go_loopw [17] (fun iv wr => ∃ i m : Nat, ∃ l : List RevR, ∃ d : Nat, i + m = n ∧ iv = .int .i64 (i : Int) ∧ Hid (l.length = i ∧ LSt 57 11 (RelR B rb) ka kr t o rb N F C (N + 1) T cs0 S (a + d) l w wr) ∧ Hid (M = app l d (manyG g m (S.drop (a + d)) (a + d)))) (fun iv _ => (n : Int).toNat - (intOf iv).toNat)
      case atStart => exact ⟨0, n, [], k0, by omega, rfl, Lib.hid ⟨rfl, HST2.out⟩, Lib.hid HMM.out.symm⟩
      case round =>
        obtain ⟨i, m, l, d, him, rfl, HST, HEQ⟩ := hrel
        by_cases hm0 : m = 0
        · subst hm0
          obtain rfl : i = n := by omega
          have hl : ¬ (i : Int) < (i : Int) := by omega
          have HE2 : Hid (M = .ok (l, d)) := Lib.hid (by rw [HEQ.out]; simp [manyG, app])
          go_wp2
          refine bodyPost_end (results_none rfl _ _ _) rfl ?_
          rw [HE2.out]
          obtain ⟨v, xs, hv1, hv2, hv3⟩ := HST.out.2.h
          exact ⟨rfl, ⟨v, xs, hv1, by rw [HNN.out]; exact hv2, hv3⟩, HST.out.2.s.r, HST.out.2.s.a, HST.out.2.d⟩
        · obtain ⟨m', rfl⟩ : ∃ m', m = m' + 1 := ⟨m - 1, by omega⟩
          have hl : (i : Int) < (n : Int) := by omega
          have j0 : (0 : Int) ≤ (i : Int) := by omega
          have hi10 : (i : Int) < 10240 := by have := HNM.out; omega
          have hEQ2 := HEQ.out
          rw [manyG_step] at hEQ2
          go_upto_region 5 with fail
          have hH8 : LAt ka kr t o rb N F C wr.drew := HST.out.2.la.below (Below.refl _ _).drew
          have HD8 : Hid (Duo rb t w wr.drew) := Lib.hid (HST.out.2.d.trans (Duo.below (Below.refl _ _).drew))
          have HR8 := Lib.hid (HST.out.2.s.next (Below.refl _ _).drew)
          obtain ⟨v, xs, hv1, hv2, hv3⟩ := HST.out.2.h
          have HREL : Hid (RelR B rb l xs wr.drew) := Lib.hid (hv3.1.only (Only.of_below (Below.refl _ _).drew))
          have HEMP := Lib.hid hv3.2
          have HB0 : Hid (wr.drew.heap[t]? = some (.cells (cs0.setIfInBounds o v) T (0, 0))) := Lib.hid hv1
          have HOW : Hid (wr.drew.ownsRow (N + 1) 57 11 v l.length xs) := Lib.hid hv2
          have HLL : Hid (l.length < 10240) := Lib.hid (by have := HST.out.1; have := HNM.out; omega)
          have HBS : Hid (N + 1 ≤ wr.heap.size) := Lib.hid HST.out.2.b
          have HSZ8 : Hid (wr.drew.heap.size = wr.heap.size) := Lib.hid rfl
          have HLI := Lib.hid HST.out.1
          have HEL := Lib.hid (HE.out (a + d) wr.drew HD8.out HR8.out)
          refine wp_region_held_drew (S := fun w' => LAt ka kr t o rb N F C w') (by kernel_rfl) hH8 (fun hH => ?_)
          generalize wr.drew = w8 at *
          clear hv1 hv2 hv3 hH8 hm0
          cases hg : g (S.drop (a + d)) (a + d) with
          | error f =>
            obtain ⟨c, b⟩ := f
            rw [hg] at hEQ2 HEL
            have HBAD : Hid (∀ w4 f, w8.heap.size ≤ f → w4.cell? ⟨f, 0, none⟩ = some (.int .i64 (c : Int)) → w4.cell? ⟨f, 1, none⟩ = some (.int .i64 (b : Int)) → Only rb w8 w4 → c ≠ 0 → LRd 57 11 (RelR B rb) rb t o S a T cs0 w M (upF f) w4) := Lib.hid fun w4 f hf hf0 hf1 ho4 hc => by
              rw [hEQ2]
              exact ⟨hc, ⟨f, Nat.le_trans HD8.out.size hf, rfl, hf0, hf1⟩, HD8.out.trans (Duo.only ho4), l, v, xs, (ho4.block t hH.l.2.2.2 HAP.out.t).trans HB0.out, by rw [HNN.out]; exact own_only HOW.out ho4 (by have := HLO.out; omega), (HREL.out.only ho4), HEMP.out⟩
            clear hg hEQ2
            refine wpAnyH_take (i := 0) (oi := ⟨some 19, .load 114 (.tmp 2), _, _, _, none⟩) (v := .pointer (some ⟨t, o, none⟩)) rfl (by kernel_rfl) (by kernel_rfl) (by kernel_rfl) (fun _ _ _ h => h) (Or.inl ⟨by rfl, fun w hS => by have c0 := hS.a; go_simp⟩) hH ?_
            try simp only [Act.put, List.setIfInBounds_toArray, List.set_cons_succ, List.set_cons_zero]
            refine wpAnyH_take (i := 1) (oi := ⟨some 20, .load 114 (.tmp 2), _, _, _, none⟩) (v := .pointer (some ⟨t, o, none⟩)) rfl (by kernel_rfl) (by kernel_rfl) (by kernel_rfl) (fun _ _ _ h => h) (Or.inl ⟨by rfl, fun w hS => by have c0 := hS.a; go_simp⟩) hH ?_
            try simp only [Act.put, List.setIfInBounds_toArray, List.set_cons_succ, List.set_cons_zero]
            refine wpAnyH_take (i := 2) (oi := ⟨some 21, .nilCheck (.tmp 20), _, _, _, none⟩) (v := .pointer (some ⟨t, o, none⟩)) rfl (by kernel_rfl) (by kernel_rfl) (by kernel_rfl) (fun _ _ _ h => h) (Or.inl ⟨by rfl, fun _ _ => rfl⟩) hH ?_
            try simp only [Act.put, List.setIfInBounds_toArray, List.set_cons_succ, List.set_cons_zero]
            refine wpAnyH_take (i := 4) (oi := ⟨some 23, .load 180 (.tmp 3), _, _, _, none⟩) (v := .func (.func F) #[] C) rfl (by kernel_rfl) (by kernel_rfl) (by kernel_rfl) (fun _ _ _ h => h) (Or.inl ⟨by rfl, fun w hS => by have c0 := hS.r; go_simp⟩) hH ?_
            try simp only [Act.put, List.setIfInBounds_toArray, List.set_cons_succ, List.set_cons_zero]
            refine wpAnyH_take (i := 5) (oi := ⟨some 24, .load 124 (.tmp 4), _, _, _, none⟩) (v := .agg #[.pointer (some ⟨rb, 0, none⟩)]) rfl (by kernel_rfl) (by kernel_rfl) (by kernel_rfl) (fun _ _ _ h => h) (Or.inl ⟨by rfl, fun w hS => by have c0 := hS.n; go_simp⟩) hH ?_
            try simp only [Act.put, List.setIfInBounds_toArray, List.set_cons_succ, List.set_cons_zero]
            refine wpAnyH_ready (rs := [3, 6]) (by kernel_rfl) (by simp) (AllReadyH.cons (o := ⟨some 22, .load 23 (.tmp 21), _, _, _, none⟩) rfl (fun K hK => ?_) (AllReadyH.cons (o := ⟨some 25, .call ⟨.value (.tmp 23), #[.tmp 24], #[124]⟩, _, _, _, none⟩) rfl (fun K hK => ?_) AllReadyH.nil))
            · skip
              have c3 := (lit_cell HB0.out o).trans (Array.getElem?_setIfInBounds_self_of_lt HLT.out)
              go_simp
              refine hK.out _ _ hH (fun _ => ?_)
              clear hK K c3
              try simp only [Act.put, List.setIfInBounds_toArray, List.set_cons_succ, List.set_cons_zero]
              refine wpAnyH_ready (rs := [6]) (by kernel_rfl) (by simp) (AllReadyH.cons (o := ⟨some 25, .call ⟨.value (.tmp 23), #[.tmp 24], #[124]⟩, _, _, _, none⟩) rfl (fun K hK => ?_) AllReadyH.nil)
              have HK := Lib.hid hK
              clear hK
              have hent := HENT.out
              simp only [Ent] at hent
              go_simp
              refine HEL.out.mono ?_
              rintro e w4 ⟨hc4, ⟨f, hf, rfl, hf0, hf1⟩, ho4⟩
              exact ⟨rfl, HBAD.out _ f hf hf0 hf1 ho4 hc4⟩
            · skip
              have HK := Lib.hid hK
              clear hK
              have hent := HENT.out
              simp only [Ent] at hent
              go_simp
              refine HEL.out.mono ?_
              rintro e w4 ⟨hc4, ⟨f, hf, rfl, hf0, hf1⟩, ho4⟩
              exact ⟨rfl, HBAD.out _ f hf hf0 hf1 ho4 hc4⟩
          | ok q =>
            obtain ⟨x, k⟩ := q
            rw [hg] at hEQ2 HEL
            simp only at hEQ2
            have HE2 : Hid (M = app (l ++ [x]) (d + k) (manyG g m' (S.drop (a + (d + k))) (a + (d + k)))) := Lib.hid (by rw [hEQ2, List.drop_drop, show a + (d + k) = a + d + k by omega])
            have HOWN : Hid (∀ w4, Only rb w8 w4 → ∀ o', (w4.alloc o').ownsRow (N + 1) 57 11 v l.length xs) := Lib.hid fun w4 ho4 o' => (own_only HOW.out ho4 (by have := HLO.out; omega)).alloc o'
            have HBS8 : Hid (N + 1 ≤ w8.heap.size) := Lib.hid (by have := HBS.out; have := HSZ8.out; omega)
            clear hg hEQ2
            refine wpAnyH_take (i := 0) (oi := ⟨some 19, .load 114 (.tmp 2), _, _, _, none⟩) (v := .pointer (some ⟨t, o, none⟩)) rfl (by kernel_rfl) (by kernel_rfl) (by kernel_rfl) (fun _ _ _ h => h) (Or.inl ⟨by rfl, fun w hS => by have c0 := hS.a; go_simp⟩) hH ?_
            try simp only [Act.put, List.setIfInBounds_toArray, List.set_cons_succ, List.set_cons_zero]
            refine wpAnyH_take (i := 1) (oi := ⟨some 20, .load 114 (.tmp 2), _, _, _, none⟩) (v := .pointer (some ⟨t, o, none⟩)) rfl (by kernel_rfl) (by kernel_rfl) (by kernel_rfl) (fun _ _ _ h => h) (Or.inl ⟨by rfl, fun w hS => by have c0 := hS.a; go_simp⟩) hH ?_
            try simp only [Act.put, List.setIfInBounds_toArray, List.set_cons_succ, List.set_cons_zero]
            refine wpAnyH_take (i := 2) (oi := ⟨some 21, .nilCheck (.tmp 20), _, _, _, none⟩) (v := .pointer (some ⟨t, o, none⟩)) rfl (by kernel_rfl) (by kernel_rfl) (by kernel_rfl) (fun _ _ _ h => h) (Or.inl ⟨by rfl, fun _ _ => rfl⟩) hH ?_
            try simp only [Act.put, List.setIfInBounds_toArray, List.set_cons_succ, List.set_cons_zero]
            refine wpAnyH_take (i := 4) (oi := ⟨some 23, .load 180 (.tmp 3), _, _, _, none⟩) (v := .func (.func F) #[] C) rfl (by kernel_rfl) (by kernel_rfl) (by kernel_rfl) (fun _ _ _ h => h) (Or.inl ⟨by rfl, fun w hS => by have c0 := hS.r; go_simp⟩) hH ?_
            try simp only [Act.put, List.setIfInBounds_toArray, List.set_cons_succ, List.set_cons_zero]
            refine wpAnyH_take (i := 5) (oi := ⟨some 24, .load 124 (.tmp 4), _, _, _, none⟩) (v := .agg #[.pointer (some ⟨rb, 0, none⟩)]) rfl (by kernel_rfl) (by kernel_rfl) (by kernel_rfl) (fun _ _ _ h => h) (Or.inl ⟨by rfl, fun w hS => by have c0 := hS.n; go_simp⟩) hH ?_
            try simp only [Act.put, List.setIfInBounds_toArray, List.set_cons_succ, List.set_cons_zero]
            refine wpAnyH_ready (rs := [3, 6]) (by kernel_rfl) (by simp) (AllReadyH.cons (o := ⟨some 22, .load 23 (.tmp 21), _, _, _, none⟩) rfl (fun K hK => ?_) (AllReadyH.cons (o := ⟨some 25, .call ⟨.value (.tmp 23), #[.tmp 24], #[124]⟩, _, _, _, none⟩) rfl (fun K hK => ?_) AllReadyH.nil))
            · skip
              have c3 := (lit_cell HB0.out o).trans (Array.getElem?_setIfInBounds_self_of_lt HLT.out)
              go_simp
              refine hK.out _ _ hH (fun _ => ?_)
              clear hK K c3
              try simp only [Act.put, List.setIfInBounds_toArray, List.set_cons_succ, List.set_cons_zero]
              refine wpAnyH_ready (rs := [6]) (by kernel_rfl) (by simp) (AllReadyH.cons (o := ⟨some 25, .call ⟨.value (.tmp 23), #[.tmp 24], #[124]⟩, _, _, _, none⟩) rfl (fun K hK => ?_) AllReadyH.nil)
              have HK := Lib.hid hK
              clear hK
              have hent := HENT.out
              simp only [Ent] at hent
              go_simp
              refine HEL.out.mono ?_
              rintro e w4 ⟨⟨y, rfl, rfl, ho1, ho2⟩, hr4, ha4, ho4⟩; have HO1 := Lib.hid ho1; have HO2 := Lib.hid ho2; clear ho1 ho2
              have HL4 := Lib.hid (hH.only ho4 HAP.out)
              have HB4 := Lib.hid ((ho4.block t hH.l.2.2.2 HAP.out.t).trans HB0.out)
              refine HK.out.out _ _ HL4.out (fun _ => ?_)
              clear HK K
              try simp only [Act.put, List.setIfInBounds_toArray, List.set_cons_succ, List.set_cons_zero]
              refine wpAnyH_ready (rs := [7]) (by kernel_rfl) (by simp) (AllReadyH.cons (o := ⟨some 26, .buildSlice 23 1 #[(0, .tmp 25)], _, _, _, none⟩) rfl (fun K hK => ?_) AllReadyH.nil)
              have HL5 := Lib.hid (HL4.out.below (by0 w4 (.cells #[.int .u64 (y.r.pos : Int), .int .u64 (y.r.slot.l : Int), .bool y.r.slot.signed, .int .u64 (y.r.slot.sig.index : Int), .slice y.wa y.r.slot.sig.wots.length y.wc, .slice y.pa y.r.slot.sig.path.length y.pc, .string ⟨y.r.part.root.toArray⟩, .int .u64 (y.r.part.weight : Int), .int .u64 (y.r.part.first : Int), .int .u64 (y.r.part.life : Int), .int .u64 (y.r.part.keys : Int)] 57)))
              have HB5 := Lib.hid (lit_old (w := w4) (.cells #[.int .u64 (y.r.pos : Int), .int .u64 (y.r.slot.l : Int), .bool y.r.slot.signed, .int .u64 (y.r.slot.sig.index : Int), .slice y.wa y.r.slot.sig.wots.length y.wc, .slice y.pa y.r.slot.sig.path.length y.pc, .string ⟨y.r.part.root.toArray⟩, .int .u64 (y.r.part.weight : Int), .int .u64 (y.r.part.first : Int), .int .u64 (y.r.part.life : Int), .int .u64 (y.r.part.keys : Int)] 57) HB4.out)
              go_simp
              refine hK.out _ _ HL5.out (fun _ => ?_)
              clear hK K
              try simp only [Act.put, List.setIfInBounds_toArray, List.set_cons_succ, List.set_cons_zero]
              refine wpAnyH_ready (rs := [8]) (by kernel_rfl) (by simp) (AllReadyH.cons (o := ⟨some 27, .call ⟨.builtin .append, #[.tmp 22, .tmp 26], #[23, 23]⟩, _, _, _, none⟩) rfl (fun K hK => ?_) AllReadyH.nil)
              refine step_append_at rfl (.tmp 22) (.tmp 26) 23 rfl (N + 1) 57 i0 (.agg #[.int .u64 0, .int .u64 0, .bool false, .int .u64 0, .slice none 0 0, .slice none 0 0, .string ⟨#[]⟩, .int .u64 0, .int .u64 0, .int .u64 0, .int .u64 0]) 11 128 Tryz.underlying23 hi hz hs hby rfl (by decide) v l.length xs rfl (HOWN.out w4 ho4 _) ⟨w4.heap.size, 0, none⟩ 1 1 [.int .u64 (y.r.pos : Int), .int .u64 (y.r.slot.l : Int), .bool y.r.slot.signed, .int .u64 (y.r.slot.sig.index : Int), .slice y.wa y.r.slot.sig.wots.length y.wc, .slice y.pa y.r.slot.sig.path.length y.pc, .string ⟨y.r.part.root.toArray⟩, .int .u64 (y.r.part.weight : Int), .int .u64 (y.r.part.first : Int), .int .u64 (y.r.part.life : Int), .int .u64 (y.r.part.keys : Int)] rfl rfl (rev_new w4 y _) (rev_one y) (by have := HLL.out; unfold maxLen; omega) (by have := HLL.out; omega) (by have := HBS.out; have := ho4.size; have := HSZ8.out; rw [World.size_alloc]; omega) ?_
              intro v6 w6 hown6 hg6
              have HT6 := Lib.hid (lst_tail (Rel := (RelR B rb)) (x := y.r) hH HB0.out HD8.out HOW.out HAP.out HLO.out HNN.out HBS8.out ho4 hr4 ha4 HR8.out HGL.out hown6 hg6 (HREL.out.step HEMP.out HOW.out ho4 (by have := HBB.out; have := HNN.out; have := HBS8.out; have := HLO.out; omega) HO1.out HO2.out hg6))
              refine hK.out _ _ HT6.out.1 (fun _ => ?_)
              clear hK K
              try simp only [Act.put, List.setIfInBounds_toArray, List.set_cons_succ, List.set_cons_zero]
              refine wpAnyH_ready (rs := [9]) (by kernel_rfl) (by simp) (AllReadyH.cons (o := ⟨some 28, .nilCheck (.tmp 19), _, _, _, none⟩) rfl (fun K hK => ?_) AllReadyH.nil)
              go_simp
              refine hK.out _ _ HT6.out.1 (fun _ => ?_)
              clear hK K
              try simp only [Act.put, List.setIfInBounds_toArray, List.set_cons_succ, List.set_cons_zero]
              have q0 := lit_free HT6.out.2.1 o
              have q1 := (lit_cell HT6.out.2.1 o).trans (Array.getElem?_setIfInBounds_self_of_lt HLT.out)
              obtain ⟨ao6, ln6, cp6, rfl⟩ := own_slice hown6
              refine wpAnyH_ready (rs := [10]) (by kernel_rfl) (by simp) (AllReadyH.cons (o := ⟨none, .store 23 (.tmp 28) (.tmp 27), _, _, _, none⟩) rfl (fun K hK => ?_) AllReadyH.nil)
              go_simp
              refine hK.out _ _ (HT6.out.1.set _ HAP.out) (fun _ => ?_)
              clear hK K
              try simp only [Act.put, List.setIfInBounds_toArray, List.set_cons_succ, List.set_cons_zero]
              refine wpAnyH_done (by kernel_rfl) ?_ _
              have HST6 := Lib.hid HT6.out.2.2
              generalize w6.setCell ⟨t, o, none⟩ (.slice ao6 ln6 cp6) = w7 at *
              clear q0 q1 HT6 hown6 hg6
              go_wp2
              exact ⟨⟨i + 1, m', l ++ [y.r], d + k, by omega, by go_num, Lib.hid ⟨by rw [List.length_append, HLI.out]; rfl, HST6.out⟩, HE2⟩, by simp [intOf] <;> omega⟩
            · skip
              have HK := Lib.hid hK
              clear hK
              have hent := HENT.out
              simp only [Ent] at hent
              go_simp
              refine HEL.out.mono ?_
              rintro e w4 ⟨⟨y, rfl, rfl, ho1, ho2⟩, hr4, ha4, ho4⟩; have HO1 := Lib.hid ho1; have HO2 := Lib.hid ho2; clear ho1 ho2
              have HL4 := Lib.hid (hH.only ho4 HAP.out)
              have HB4 := Lib.hid ((ho4.block t hH.l.2.2.2 HAP.out.t).trans HB0.out)
              refine HK.out.out _ _ HL4.out (fun _ => ?_)
              clear HK K
              try simp only [Act.put, List.setIfInBounds_toArray, List.set_cons_succ, List.set_cons_zero]
              refine wpAnyH_ready (rs := [3, 7]) (by kernel_rfl) (by simp) (AllReadyH.cons (o := ⟨some 22, .load 23 (.tmp 21), _, _, _, none⟩) rfl (fun K hK => ?_) (AllReadyH.cons (o := ⟨some 26, .buildSlice 23 1 #[(0, .tmp 25)], _, _, _, none⟩) rfl (fun K hK => ?_) AllReadyH.nil))
              · skip
                have c3 := (lit_cell HB4.out o).trans (Array.getElem?_setIfInBounds_self_of_lt HLT.out)
                go_simp
                refine hK.out _ _ HL4.out (fun _ => ?_)
                clear hK K c3
                try simp only [Act.put, List.setIfInBounds_toArray, List.set_cons_succ, List.set_cons_zero]
                refine wpAnyH_ready (rs := [7]) (by kernel_rfl) (by simp) (AllReadyH.cons (o := ⟨some 26, .buildSlice 23 1 #[(0, .tmp 25)], _, _, _, none⟩) rfl (fun K hK => ?_) AllReadyH.nil)
                have HL5 := Lib.hid (HL4.out.below (by0 w4 (.cells #[.int .u64 (y.r.pos : Int), .int .u64 (y.r.slot.l : Int), .bool y.r.slot.signed, .int .u64 (y.r.slot.sig.index : Int), .slice y.wa y.r.slot.sig.wots.length y.wc, .slice y.pa y.r.slot.sig.path.length y.pc, .string ⟨y.r.part.root.toArray⟩, .int .u64 (y.r.part.weight : Int), .int .u64 (y.r.part.first : Int), .int .u64 (y.r.part.life : Int), .int .u64 (y.r.part.keys : Int)] 57)))
                have HB5 := Lib.hid (lit_old (w := w4) (.cells #[.int .u64 (y.r.pos : Int), .int .u64 (y.r.slot.l : Int), .bool y.r.slot.signed, .int .u64 (y.r.slot.sig.index : Int), .slice y.wa y.r.slot.sig.wots.length y.wc, .slice y.pa y.r.slot.sig.path.length y.pc, .string ⟨y.r.part.root.toArray⟩, .int .u64 (y.r.part.weight : Int), .int .u64 (y.r.part.first : Int), .int .u64 (y.r.part.life : Int), .int .u64 (y.r.part.keys : Int)] 57) HB4.out)
                go_simp
                refine hK.out _ _ HL5.out (fun _ => ?_)
                clear hK K
                try simp only [Act.put, List.setIfInBounds_toArray, List.set_cons_succ, List.set_cons_zero]
                refine wpAnyH_ready (rs := [8]) (by kernel_rfl) (by simp) (AllReadyH.cons (o := ⟨some 27, .call ⟨.builtin .append, #[.tmp 22, .tmp 26], #[23, 23]⟩, _, _, _, none⟩) rfl (fun K hK => ?_) AllReadyH.nil)
                refine step_append_at rfl (.tmp 22) (.tmp 26) 23 rfl (N + 1) 57 i0 (.agg #[.int .u64 0, .int .u64 0, .bool false, .int .u64 0, .slice none 0 0, .slice none 0 0, .string ⟨#[]⟩, .int .u64 0, .int .u64 0, .int .u64 0, .int .u64 0]) 11 128 Tryz.underlying23 hi hz hs hby rfl (by decide) v l.length xs rfl (HOWN.out w4 ho4 _) ⟨w4.heap.size, 0, none⟩ 1 1 [.int .u64 (y.r.pos : Int), .int .u64 (y.r.slot.l : Int), .bool y.r.slot.signed, .int .u64 (y.r.slot.sig.index : Int), .slice y.wa y.r.slot.sig.wots.length y.wc, .slice y.pa y.r.slot.sig.path.length y.pc, .string ⟨y.r.part.root.toArray⟩, .int .u64 (y.r.part.weight : Int), .int .u64 (y.r.part.first : Int), .int .u64 (y.r.part.life : Int), .int .u64 (y.r.part.keys : Int)] rfl rfl (rev_new w4 y _) (rev_one y) (by have := HLL.out; unfold maxLen; omega) (by have := HLL.out; omega) (by have := HBS.out; have := ho4.size; have := HSZ8.out; rw [World.size_alloc]; omega) ?_
                intro v6 w6 hown6 hg6
                have HT6 := Lib.hid (lst_tail (Rel := (RelR B rb)) (x := y.r) hH HB0.out HD8.out HOW.out HAP.out HLO.out HNN.out HBS8.out ho4 hr4 ha4 HR8.out HGL.out hown6 hg6 (HREL.out.step HEMP.out HOW.out ho4 (by have := HBB.out; have := HNN.out; have := HBS8.out; have := HLO.out; omega) HO1.out HO2.out hg6))
                refine hK.out _ _ HT6.out.1 (fun _ => ?_)
                clear hK K
                try simp only [Act.put, List.setIfInBounds_toArray, List.set_cons_succ, List.set_cons_zero]
                refine wpAnyH_ready (rs := [9]) (by kernel_rfl) (by simp) (AllReadyH.cons (o := ⟨some 28, .nilCheck (.tmp 19), _, _, _, none⟩) rfl (fun K hK => ?_) AllReadyH.nil)
                go_simp
                refine hK.out _ _ HT6.out.1 (fun _ => ?_)
                clear hK K
                try simp only [Act.put, List.setIfInBounds_toArray, List.set_cons_succ, List.set_cons_zero]
                have q0 := lit_free HT6.out.2.1 o
                have q1 := (lit_cell HT6.out.2.1 o).trans (Array.getElem?_setIfInBounds_self_of_lt HLT.out)
                obtain ⟨ao6, ln6, cp6, rfl⟩ := own_slice hown6
                refine wpAnyH_ready (rs := [10]) (by kernel_rfl) (by simp) (AllReadyH.cons (o := ⟨none, .store 23 (.tmp 28) (.tmp 27), _, _, _, none⟩) rfl (fun K hK => ?_) AllReadyH.nil)
                go_simp
                refine hK.out _ _ (HT6.out.1.set _ HAP.out) (fun _ => ?_)
                clear hK K
                try simp only [Act.put, List.setIfInBounds_toArray, List.set_cons_succ, List.set_cons_zero]
                refine wpAnyH_done (by kernel_rfl) ?_ _
                have HST6 := Lib.hid HT6.out.2.2
                generalize w6.setCell ⟨t, o, none⟩ (.slice ao6 ln6 cp6) = w7 at *
                clear q0 q1 HT6 hown6 hg6
                go_wp2
                exact ⟨⟨i + 1, m', l ++ [y.r], d + k, by omega, by go_num, Lib.hid ⟨by rw [List.length_append, HLI.out]; rfl, HST6.out⟩, HE2⟩, by simp [intOf] <;> omega⟩
              · skip
                have HL5 := Lib.hid (HL4.out.below (by0 w4 (.cells #[.int .u64 (y.r.pos : Int), .int .u64 (y.r.slot.l : Int), .bool y.r.slot.signed, .int .u64 (y.r.slot.sig.index : Int), .slice y.wa y.r.slot.sig.wots.length y.wc, .slice y.pa y.r.slot.sig.path.length y.pc, .string ⟨y.r.part.root.toArray⟩, .int .u64 (y.r.part.weight : Int), .int .u64 (y.r.part.first : Int), .int .u64 (y.r.part.life : Int), .int .u64 (y.r.part.keys : Int)] 57)))
                have HB5 := Lib.hid (lit_old (w := w4) (.cells #[.int .u64 (y.r.pos : Int), .int .u64 (y.r.slot.l : Int), .bool y.r.slot.signed, .int .u64 (y.r.slot.sig.index : Int), .slice y.wa y.r.slot.sig.wots.length y.wc, .slice y.pa y.r.slot.sig.path.length y.pc, .string ⟨y.r.part.root.toArray⟩, .int .u64 (y.r.part.weight : Int), .int .u64 (y.r.part.first : Int), .int .u64 (y.r.part.life : Int), .int .u64 (y.r.part.keys : Int)] 57) HB4.out)
                go_simp
                refine hK.out _ _ HL5.out (fun _ => ?_)
                clear hK K
                try simp only [Act.put, List.setIfInBounds_toArray, List.set_cons_succ, List.set_cons_zero]
                refine wpAnyH_ready (rs := [3]) (by kernel_rfl) (by simp) (AllReadyH.cons (o := ⟨some 22, .load 23 (.tmp 21), _, _, _, none⟩) rfl (fun K hK => ?_) AllReadyH.nil)
                have c3 := (lit_cell HB5.out o).trans (Array.getElem?_setIfInBounds_self_of_lt HLT.out)
                go_simp
                refine hK.out _ _ HL5.out (fun _ => ?_)
                clear hK K c3
                try simp only [Act.put, List.setIfInBounds_toArray, List.set_cons_succ, List.set_cons_zero]
                refine wpAnyH_ready (rs := [8]) (by kernel_rfl) (by simp) (AllReadyH.cons (o := ⟨some 27, .call ⟨.builtin .append, #[.tmp 22, .tmp 26], #[23, 23]⟩, _, _, _, none⟩) rfl (fun K hK => ?_) AllReadyH.nil)
                refine step_append_at rfl (.tmp 22) (.tmp 26) 23 rfl (N + 1) 57 i0 (.agg #[.int .u64 0, .int .u64 0, .bool false, .int .u64 0, .slice none 0 0, .slice none 0 0, .string ⟨#[]⟩, .int .u64 0, .int .u64 0, .int .u64 0, .int .u64 0]) 11 128 Tryz.underlying23 hi hz hs hby rfl (by decide) v l.length xs rfl (HOWN.out w4 ho4 _) ⟨w4.heap.size, 0, none⟩ 1 1 [.int .u64 (y.r.pos : Int), .int .u64 (y.r.slot.l : Int), .bool y.r.slot.signed, .int .u64 (y.r.slot.sig.index : Int), .slice y.wa y.r.slot.sig.wots.length y.wc, .slice y.pa y.r.slot.sig.path.length y.pc, .string ⟨y.r.part.root.toArray⟩, .int .u64 (y.r.part.weight : Int), .int .u64 (y.r.part.first : Int), .int .u64 (y.r.part.life : Int), .int .u64 (y.r.part.keys : Int)] rfl rfl (rev_new w4 y _) (rev_one y) (by have := HLL.out; unfold maxLen; omega) (by have := HLL.out; omega) (by have := HBS.out; have := ho4.size; have := HSZ8.out; rw [World.size_alloc]; omega) ?_
                intro v6 w6 hown6 hg6
                have HT6 := Lib.hid (lst_tail (Rel := (RelR B rb)) (x := y.r) hH HB0.out HD8.out HOW.out HAP.out HLO.out HNN.out HBS8.out ho4 hr4 ha4 HR8.out HGL.out hown6 hg6 (HREL.out.step HEMP.out HOW.out ho4 (by have := HBB.out; have := HNN.out; have := HBS8.out; have := HLO.out; omega) HO1.out HO2.out hg6))
                refine hK.out _ _ HT6.out.1 (fun _ => ?_)
                clear hK K
                try simp only [Act.put, List.setIfInBounds_toArray, List.set_cons_succ, List.set_cons_zero]
                refine wpAnyH_ready (rs := [9]) (by kernel_rfl) (by simp) (AllReadyH.cons (o := ⟨some 28, .nilCheck (.tmp 19), _, _, _, none⟩) rfl (fun K hK => ?_) AllReadyH.nil)
                go_simp
                refine hK.out _ _ HT6.out.1 (fun _ => ?_)
                clear hK K
                try simp only [Act.put, List.setIfInBounds_toArray, List.set_cons_succ, List.set_cons_zero]
                have q0 := lit_free HT6.out.2.1 o
                have q1 := (lit_cell HT6.out.2.1 o).trans (Array.getElem?_setIfInBounds_self_of_lt HLT.out)
                obtain ⟨ao6, ln6, cp6, rfl⟩ := own_slice hown6
                refine wpAnyH_ready (rs := [10]) (by kernel_rfl) (by simp) (AllReadyH.cons (o := ⟨none, .store 23 (.tmp 28) (.tmp 27), _, _, _, none⟩) rfl (fun K hK => ?_) AllReadyH.nil)
                go_simp
                refine hK.out _ _ (HT6.out.1.set _ HAP.out) (fun _ => ?_)
                clear hK K
                try simp only [Act.put, List.setIfInBounds_toArray, List.set_cons_succ, List.set_cons_zero]
                refine wpAnyH_done (by kernel_rfl) ?_ _
                have HST6 := Lib.hid HT6.out.2.2
                generalize w6.setCell ⟨t, o, none⟩ (.slice ao6 ln6 cp6) = w7 at *
                clear q0 q1 HT6 hown6 hg6
                go_wp2
                exact ⟨⟨i + 1, m', l ++ [y.r], d + k, by omega, by go_num, Lib.hid ⟨by rw [List.length_append, HLI.out]; rfl, HST6.out⟩, HE2⟩, by simp [intOf] <;> omega⟩
  · rw [if_neg hc]
    have HC := Lib.hid hc
    clear hc
    go_enter Tryz.func156, Tryz.ntmps156
    go_upto_region 1 with fail
    rw [HWA.out, HNN.out]
    go_wp2_with (first | (go_at_call 145; refine HM.out.mono ?_; rintro e w2 ⟨v, rfl, hv, hr2, ho2⟩; obtain ⟨f, rfl, hup⟩ := hv.shape (by have := HC.out; omega)) | (go_at_call 111; refine (sureI_bad _ f w2).mono ?_; rintro e w2 ⟨rfl, rfl⟩))
    exact ⟨rfl, HC.out, hup.mono HB1.out.size, (Duo.below HB1.out).trans (Duo.only ho2), [], .slice none 0 0, [], ((ho2.block t HL1.out.l.2.2.2 HAP.out.t).trans HT1.out).trans (by rw [← HCS.out]), World.ownsRow_nil _ _ _ _, ⟨[], rfl, rfl, fun _ h => by cases h⟩, fun _ => rfl⟩
end Go.Proofs.YtlhmmplkdjibkaaGreatDoor
/- A Cert: its row reads. -/
namespace Go.Proofs.YtlhmmplkdjibkaaGreatDoor
open Go.RowKit

set_option maxRecDepth 100000 in
theorem read_revs {ρ : Type} {w0 : World} {rb t : Nat} {S : (List UInt8)} {Rp : ρ → World → Prop} {lo N kk o most B : Nat} {T : TypeId} {c : UInt8} {of : ρ → List RevR} {set : ρ → List RevR → ρ} (hm : most ≤ 10240) (hB : t < B ∧ B ≤ w0.heap.size + 1) (hk : NewR lo N kk t o most w0) (hlo : rb < lo ∧ t < lo) (hrt : t ≠ rb) (hS : S.length ≤ 1000000) (hG : 4 ≤ rb ∧ 4 ≤ t)
    (hL : ListL 57 11 (RelR B rb) rb t o T Rp of set) (hz : ∀ p, of p = [] → set p [] = p) : ReadF w0 rb t S Rp ⟨listRFV c N, listFld c most hm revC of set, lrd most revC.get⟩ where
  key := rfl
  tE := fun _ _ => by kernel_rfl
  rE := fun _ _ => by kernel_rfl
  get left a := by
    refine (listG_lrd most revC.get left a).trans ?_
    dsimp only
    cases lrd most revC.get left a with
    | error f => rfl
    | ok q =>
      obtain ⟨vo, k⟩ := q
      cases vo <;> rfl
  there w p hd hp := by
    obtain ⟨cs, ao, cp, h1, h2, _⟩ := hL p w hp
    have e : ((listFld c most hm revC of set).view p).isSome = decide (0 < (of p).length) := lst_some (of p)
    rw [e]
    exact listR1_any N t o (of p).length cp ao w (kCell ((hd.block N (lit_lt hk.2.2.2.a) (by have := hk.1; omega) (by have := hk.1; omega)).trans hk.2.2.2.a)) ((lit_cell h1 o).trans h2)
  read w p a hd hg hp hv hr ha := by
    obtain ⟨cs, ao, cp, h1, h2, h3, h4⟩ := hL p w hp
    have hz0 : of p = [] := lst_none hv
    obtain ⟨rfl, rfl⟩ := h3 hz0
    rw [hz0] at h2
    have hN := hk.1
    have hb := fun k (h : N ≤ k) (hk0 : k < w0.heap.size) => hd.block k hk0 (by omega) (by omega)
    refine (listR3_any N (N + 1) (N + 1 + 1 + 1) t o rb 102 most #[ptrV kk] T cs revC.get S a w (fun _ _ => by kernel_rfl) ⟨hr, hg, hS, ha⟩ (kCell ((hb N (by omega) (lit_lt hk.2.2.2.a)).trans hk.2.2.2.a)) (kCell ((hb (N + 1) (by omega) (lit_lt hk.2.2.2.m)).trans hk.2.2.2.m)) (kCell ((hb (N + 1 + 1 + 1) (by omega) (lit_lt hk.2.2.2.r)).trans hk.2.2.2.r)) h1 h2 (by omega) hG hm B ⟨hB.1, by have := hd.size; omega⟩ (fun a1 w1 hd1 h => things2_any rb kk S a1 w1 h hG.1 (by have := hk.2.1; omega) (kCell (((hd.trans hd1).block kk (lit_lt hk.2.2.1) (by have := hk.2.1; omega) (by have := hk.2.1; omega)).trans hk.2.2.1)))).mono ?_
    intro e w' hres
    show Read rb t S Rp a w.heap.size w (RW.step ⟨listRFV c N, listFld c most hm revC of set, lrd most revC.get⟩ p (S.drop a) a) e w'
    unfold RW.step lrd
    dsimp only
    cases hl : lraw most revC.get (S.drop a) a with
    | error f =>
      obtain ⟨c1, b1⟩ := f
      rw [hl] at hres
      obtain ⟨k1, k2, k3, l, v, xs, k4, k5, k6⟩ := hres
      exact ⟨k1, k2, k3, _, h4 l v xs w' k3 k4 k5 k6⟩
    | ok q =>
      obtain ⟨l, k⟩ := q
      rw [hl] at hres
      obtain ⟨k1, ⟨v, xs, k2, k3, k4⟩, k5, k6, k7⟩ := hres
      have hR := h4 l v xs w' k7 k2 k3 k4
      cases l with
      | nil =>
        rw [hz p hz0] at hR
        exact ⟨k1, hR, k5, k6, k7⟩
      | cons x l => exact ⟨k1, hR, k5, k6, k7⟩
/-- a row of values that a reading laid: none, or a block of its own behind B -/
def OwnV (B rb t : Nat) (ao : Option Addr) (cp : Nat) (xs : List Value) (w : World) : Prop :=
  (xs = [] ∧ ao = none ∧ cp = 0) ∨ ∃ b, xs ≠ [] ∧ ao = some ⟨b, 0, none⟩ ∧ B ≤ b ∧ b ≠ rb ∧ b ≠ t ∧ b < w.heap.size ∧ ∀ i u, xs[i]? = some u → w.cell? ⟨b, i, none⟩ = some u
theorem OwnV.next {B rb t : Nat} {ao : Option Addr} {cp : Nat} {xs : List Value} {w w' : World} (h : OwnV B rb t ao cp xs w) (hd : Duo rb t w w') : OwnV B rb t ao cp xs w' := by
  rcases h with h | ⟨b, h0, h1, h2, h3, h4, h5, h6⟩
  · exact .inl h
  · exact .inr ⟨b, h0, h1, h2, h3, h4, Nat.lt_of_lt_of_le h5 hd.size, fun i u hi => (World.cell?_of_block (a := ⟨b, i, none⟩) (hd.block b h5 h3 h4)).trans (h6 i u hi)⟩
theorem OwnV.of_own {B rb t base E sz n : Nat} {v : Value} {xs : List Value} {w : World} (h : w.ownsRow base E sz v n xs) (he : n = 0 → v = .slice none 0 0) (hz : 0 < sz) (hB : B ≤ base) (hr : rb < base) (ht : t < base) : ∃ ao cp, v = .slice ao n cp ∧ OwnV B rb t ao cp xs w := by
  by_cases hn0 : n = 0
  · refine ⟨none, 0, by rw [he hn0, hn0], .inl ⟨List.eq_nil_of_length_eq_zero (by rw [h.1, hn0, Nat.zero_mul]), rfl, rfl⟩⟩
  · obtain ⟨hn, h | ⟨g, cp, cur, hv, hb, hg, hc1, hc2, hc3, hc4⟩⟩ := h
    · exact absurd h.2 hn0
    · refine ⟨_, cp, hv, .inr ⟨g, fun e => ?_, rfl, by omega, by omega, by omega, lit_lt hg, fun i u hi => ?_⟩⟩
      · rw [e] at hn
        have : 0 < n * sz := Nat.mul_pos (by omega) hz
        simp at hn; omega
      · refine (lit_cell hg i).trans ?_
        rw [← hc4] at hi
        have hlt : i < n * sz := by
          have := (List.getElem?_eq_some_iff.1 hi).1
          rw [List.length_take] at this; omega
        rw [List.getElem?_take_of_lt hlt, Array.getElem?_toList] at hi
        exact hi
theorem OwnV.nil {B rb t : Nat} {ao : Option Addr} {cp : Nat} {xs : List Value} {w : World} (h : OwnV B rb t ao cp xs w) (e : xs = []) : ao = none ∧ cp = 0 := by
  rcases h with ⟨_, h, k⟩ | ⟨b, h, _⟩
  · exact ⟨h, k⟩
  · exact absurd e h
/-- a Cert's lists: where a reading laid them -/
structure CertO (B rb t : Nat) (c : CertE) (w : World) : Prop where
  r : OwnV B rb t c.ra c.rc (c.rl.flatMap revQ) w
  rs : ∀ y ∈ c.rl, OwnS B rb t y.wa y.wc y.r.slot.sig.wots w ∧ OwnS B rb t y.pa y.pc y.r.slot.sig.path w
  co : OwnV B rb t c.ca c.cc (intV c.coins) w
  sp : OwnS B rb t c.sa c.sc c.sp w
  pp : OwnS B rb t c.pa c.pc c.pp w
theorem CertO.next {B rb t : Nat} {c : CertE} {w w' : World} (h : CertO B rb t c w) (hd : Duo rb t w w') : CertO B rb t c w' := ⟨h.r.next hd, fun y hy => ⟨(h.rs y hy).1.next hd, (h.rs y hy).2.next hd⟩, h.co.next hd, h.sp.next hd, h.pp.next hd⟩
/-- a Cert in the block t -/
structure RpCert (B rb t : Nat) (p : CertR) (w : World) : Prop where
  b : B ≤ w.heap.size + 1 ∧ rb < w.heap.size + 1 ∧ t < B
  h : ∃ c : CertE, c.r = p ∧ w.heap[t]? = some (.cells (certQ c).toArray 27 (0, 0)) ∧ CertO B rb t c w
theorem RpCert.next {B rb t : Nat} {p : CertR} {w w' : World} (hrt : t ≠ rb) (h : RpCert B rb t p w) (hd : Duo rb rb w w') : RpCert B rb t p w' := by
  obtain ⟨⟨hB, hrb, htB⟩, c, h0, h1, h2⟩ := h
  have hs := hd.size
  exact ⟨⟨by omega, by omega, htB⟩, c, h0, (hd.block t (lit_lt h1) hrt hrt).trans h1, h2.next hd.weak⟩
theorem OwnS.tight {B rb t cp : Nat} {ao : Option Addr} {L : List (List UInt8)} {w : World} (h : OwnS B rb rb ao cp L w) (ht : t < B) : OwnS B rb t ao cp L w := by
  rcases h with h | ⟨b, h0, h1, h2, h3, h4, h5, h6⟩
  · exact .inl h
  · exact .inr ⟨b, h0, h1, h2, h3, by omega, h5, h6⟩
theorem cert_pp_l {B rb t : Nat} : ListL 9 1 RelS rb t 5 27 (RpCert B rb t) (·.partProof) (fun p v => { p with partProof := v }) := by
  intro p w hp
  obtain ⟨⟨hB, hrb, htB⟩, c, rfl, h1, h2⟩ := hp
  refine ⟨_, c.pa, c.pc, h1, rfl, fun e => h2.pp.nil e, fun l v xs w' hd ht ho hx => ?_⟩
  have hs := hd.size
  obtain ⟨ao, cp, rfl, hO⟩ := OwnS.of_own (B := B) (rb := rb) (t := t) ho hx.1 hx.2 hB hrb (by have := lit_lt h1; omega)
  have h3 := h2.next hd
  exact ⟨⟨by omega, by omega, htB⟩, { c with pp := l, pa := ao, pc := cp }, rfl, ht, ⟨h3.r, h3.rs, h3.co, h3.sp, hO⟩⟩
theorem cert_sp_l {B rb t : Nat} : ListL 9 1 RelS rb t 4 27 (RpCert B rb t) (·.slotProof) (fun p v => { p with slotProof := v }) := by
  intro p w hp
  obtain ⟨⟨hB, hrb, htB⟩, c, rfl, h1, h2⟩ := hp
  refine ⟨_, c.sa, c.sc, h1, rfl, fun e => h2.sp.nil e, fun l v xs w' hd ht ho hx => ?_⟩
  have hs := hd.size
  obtain ⟨ao, cp, rfl, hO⟩ := OwnS.of_own (B := B) (rb := rb) (t := t) ho hx.1 hx.2 hB hrb (by have := lit_lt h1; omega)
  have h3 := h2.next hd
  exact ⟨⟨by omega, by omega, htB⟩, { c with sp := l, sa := ao, sc := cp }, rfl, ht, ⟨h3.r, h3.rs, h3.co, hO, h3.pp⟩⟩
theorem cert_co_l {B rb t : Nat} : ListL 22 1 RelN rb t 3 27 (RpCert B rb t) (·.coins) (fun p v => { p with coins := v }) := by
  intro p w hp
  obtain ⟨⟨hB, hrb, htB⟩, c, rfl, h1, h2⟩ := hp
  refine ⟨_, c.ca, c.cc, h1, rfl, fun e => h2.co.nil (by rw [show c.coins = [] from e]; rfl), fun l v xs w' hd ht ho hx => ?_⟩
  have hs := hd.size
  obtain ⟨ao, cp, rfl, hO⟩ := OwnV.of_own (B := B) (rb := rb) (t := t) ho (fun e => hx.2 (List.eq_nil_of_length_eq_zero e)) (by decide) hB hrb (by have := lit_lt h1; omega)
  rw [show xs = intV l from hx.1] at hO
  have h3 := h2.next hd
  exact ⟨⟨by omega, by omega, htB⟩, { c with coins := l, ca := ao, cc := cp }, rfl, ht, ⟨h3.r, h3.rs, hO, h3.sp, h3.pp⟩⟩
theorem cert_rev_l {B rb t : Nat} : ListL 57 11 (RelR B rb) rb t 2 27 (RpCert B rb t) (·.reveals) (fun p v => { p with reveals := v }) := by
  intro p w hp
  obtain ⟨⟨hB, hrb, htB⟩, c, rfl, h1, h2⟩ := hp
  refine ⟨_, c.ra, c.rc, h1, ?_, fun e => h2.r.nil ?_, fun l v xs w' hd ht ho hx => ?_⟩
  · show _ = some (Value.slice c.ra ((c.rl.map (·.r)).length : Nat) c.rc)
    rw [List.length_map]; rfl
  · rw [show c.rl = [] from by simpa [CertE.r] using e]; rfl
  have hs := hd.size
  obtain ⟨ao, cp, rfl, hO⟩ := OwnV.of_own (B := B) (rb := rb) (t := t) ho (fun e => hx.2 (List.eq_nil_of_length_eq_zero e)) (by decide) hB hrb (by have := lit_lt h1; omega)
  obtain ⟨ys, rfl, rfl, hys⟩ := hx.1
  have h3 := h2.next hd
  refine ⟨⟨by omega, by omega, htB⟩, { c with rl := ys, ra := ao, rc := cp }, rfl, ?_, ⟨hO, fun y hy => ⟨(hys y hy).1.tight htB, (hys y hy).2.tight htB⟩, h3.co, h3.sp, h3.pp⟩⟩
  rw [ht, List.length_map]
  rfl
theorem cert_root_l {B rb t : Nat} : DigL rb t 0 27 (RpCert B rb t) (·.root) (fun p v => { p with root := v }) := by
  intro p w hp
  obtain ⟨⟨hB, hrb, htB⟩, c, rfl, h1, h2⟩ := hp
  refine ⟨_, h1, rfl, fun v w' hd ht => ?_⟩
  have hs := hd.size
  have h3 := h2.next hd
  exact ⟨⟨by omega, by omega, htB⟩, { c with root := v }, rfl, ht, ⟨h3.r, h3.rs, h3.co, h3.sp, h3.pp⟩⟩
theorem cert_signed_l {B rb t : Nat} : NumL rb t 1 27 (RpCert B rb t) (·.signed) (fun p v => { p with signed := v }) := by
  intro p w hp
  obtain ⟨⟨hB, hrb, htB⟩, c, rfl, h1, h2⟩ := hp
  refine ⟨_, h1, rfl, fun v w' hd ht => ?_⟩
  have hs := hd.size
  have h3 := h2.next hd
  exact ⟨⟨by omega, by omega, htB⟩, { c with signed := v }, rfl, ht, ⟨h3.r, h3.rs, h3.co, h3.sp, h3.pp⟩⟩
set_option maxRecDepth 100000 in
theorem cert_rd {w0 : World} {lo rb t fb B : Nat} {S : (List UInt8)} {fs : List FV} (hK : CertK lo t 0 fb fs w0) (hB : t < B ∧ B ≤ w0.heap.size + 1) (hlo : rb < lo ∧ t < lo) (hrt : t ≠ rb) (hS : S.length ≤ 1000000) (hG : 4 ≤ rb ∧ 4 ≤ t) : ∃ xs : List (RW CertR), fs = xs.map (·.f) ∧ xs.length = 6 ∧ xs.map (·.g) = certFs ∧ (∀ x ∈ xs, ReadF w0 rb t S (RpCert B rb t) x) ∧ ∀ p, okV certFs p → (!xs.any fun x => x.f.needed && !(x.g.view p).isSome) = (!p.root.isEmpty) := by
  obtain ⟨⟨k0, k1, k2, k3, k4, kk4, k5, rfl, h0, h1, h2, h3, h4, h5⟩, _, _⟩ := hK
  refine ⟨[⟨listSFV 80 k0, listFld 80 10240 (by decide) digC (·.partProof) (fun p v => { p with partProof := v }), lrd 10240 digG⟩, ⟨listSFV 83 k1, listFld 83 10240 (by decide) digC (·.slotProof) (fun p v => { p with slotProof := v }), lrd 10240 digG⟩, ⟨digFV 99 k2, digFld 99 (·.root) (fun p v => { p with root := v }), digRd⟩, ⟨listNFV 112 k3, listFld 112 640 (by decide) anyC (·.coins) (fun p v => { p with coins := v }), lrd 640 anyG⟩, ⟨listRFV 114 k4, listFld 114 640 (by decide) revC (·.reveals) (fun p v => { p with reveals := v }), lrd 640 revC.get⟩, ⟨numFV 119 k5, numFld 119 (·.signed) (fun p v => { p with signed := v }), numRd⟩], rfl, rfl, rfl, fun x hx => ?_, fun p hok => ?_⟩
  · simp only [List.mem_cons, List.not_mem_nil, or_false] at hx
    rcases hx with rfl | rfl | rfl | rfl | rfl | rfl
    · exact read_strs (T := 27) (by decide) h0 hlo hrt hS hG cert_pp_l (fun p h => by cases p; simp_all)
    · exact read_strs (T := 27) (by decide) h1 hlo hrt hS hG cert_sp_l (fun p h => by cases p; simp_all)
    · exact read_dig (T := 27) h2 hlo hrt hS cert_root_l
    · exact read_nums (T := 27) (by decide) h3 hlo hrt hS hG cert_co_l (fun p h => by cases p; simp_all)
    · exact read_revs (T := 27) (by decide) hB h4 hlo hrt hS hG cert_rev_l (fun p h => by cases p; simp_all)
    · exact read_num (T := 27) h5 hlo hrt hS cert_signed_l (fun p h => by cases p; simp_all)
  · simp only [List.any_cons, List.any_nil, digFld, numFld, listFld, Bool.false_and, Bool.true_and, Bool.or_false, Bool.false_or, dig_some]
    cases p.root <;> simp
end Go.Proofs.YtlhmmplkdjibkaaGreatDoor
