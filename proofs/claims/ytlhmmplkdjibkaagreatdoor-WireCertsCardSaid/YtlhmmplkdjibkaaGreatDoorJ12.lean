/- The closures of lists that ask and lay. -/
import Derived.Test.YtlhmmplkdjibkaaGreatDoorJ11
namespace Go.Proofs.YtlhmmplkdjibkaaGreatDoor
open Go.RowKit

theorem lists_len {α : Type} (eb : α → (List UInt8)) (eo : α → Bool) (em : Nat) (hem : ∀ x, eo x = true → (eb x).length ≤ em) : ∀ (l : List α), l.all eo = true → (l.flatMap eb).length ≤ l.length * em
  | [], _ => Nat.zero_le _
  | x :: l, h => by
    rw [List.all_cons, Bool.and_eq_true] at h
    have h1 := hem x h.1
    have h2 := lists_len eb eo em hem l h.2
    rw [List.flatMap_cons, List.length_append, List.length_cons, Nat.succ_mul]
    omega
/-- what a list's laying wants of memory -/
structure LLay (ka km kl t o F : Nat) (C : Array Value) (most : Nat) (v : Value) (w : World) : Prop where
  a : Cap ka t o w
  m : w.cell? ⟨km, 0, none⟩ = some (.int .i64 (most : Int))
  f : w.cell? ⟨kl, 0, none⟩ = some (.func (.func F) #[] C)
  c : w.cell? ⟨t, o, none⟩ = some v

/-- a Reveal in memory: where its lists lie -/
structure RevE where
  r : RevR
  wa : Option Addr
  wc : Nat
  pa : Option Addr
  pc : Nat
def revQ (x : RevE) : List Value := [.int .u64 (x.r.pos : Int), .int .u64 (x.r.slot.l : Int), .bool x.r.slot.signed, .int .u64 (x.r.slot.sig.index : Int), .slice x.wa x.r.slot.sig.wots.length x.wc, .slice x.pa x.r.slot.sig.path.length x.pc, .string ⟨x.r.part.root.toArray⟩, .int .u64 (x.r.part.weight : Int), .int .u64 (x.r.part.first : Int), .int .u64 (x.r.part.life : Int), .int .u64 (x.r.part.keys : Int)]
abbrev revV (x : RevE) : Value := .agg #[.int .u64 (x.r.pos : Int), .int .u64 (x.r.slot.l : Int), .bool x.r.slot.signed, .int .u64 (x.r.slot.sig.index : Int), .slice x.wa x.r.slot.sig.wots.length x.wc, .slice x.pa x.r.slot.sig.path.length x.pc, .string ⟨x.r.part.root.toArray⟩, .int .u64 (x.r.part.weight : Int), .int .u64 (x.r.part.first : Int), .int .u64 (x.r.part.life : Int), .int .u64 (x.r.part.keys : Int)]
theorem rev_cells {w : World} {bb q : Nat} {x : RevE} (h : ∀ j, j < 11 → w.cell? ⟨bb, q + j, none⟩ = (revQ x)[j]?) : w.cell? ⟨bb, q, none⟩ = some (.int .u64 (x.r.pos : Int)) ∧ w.cell? ⟨bb, q + 1, none⟩ = some (.int .u64 (x.r.slot.l : Int)) ∧ w.cell? ⟨bb, q + 2, none⟩ = some (.bool x.r.slot.signed) ∧ w.cell? ⟨bb, q + 3, none⟩ = some (.int .u64 (x.r.slot.sig.index : Int)) ∧ w.cell? ⟨bb, q + 4, none⟩ = some (.slice x.wa x.r.slot.sig.wots.length x.wc) ∧ w.cell? ⟨bb, q + 5, none⟩ = some (.slice x.pa x.r.slot.sig.path.length x.pc) ∧ w.cell? ⟨bb, q + 6, none⟩ = some (.string ⟨x.r.part.root.toArray⟩) ∧ w.cell? ⟨bb, q + 7, none⟩ = some (.int .u64 (x.r.part.weight : Int)) ∧ w.cell? ⟨bb, q + 8, none⟩ = some (.int .u64 (x.r.part.first : Int)) ∧ w.cell? ⟨bb, q + 9, none⟩ = some (.int .u64 (x.r.part.life : Int)) ∧ w.cell? ⟨bb, q + 10, none⟩ = some (.int .u64 (x.r.part.keys : Int)) :=
  ⟨h 0 (by decide), h 1 (by decide), h 2 (by decide), h 3 (by decide), h 4 (by decide), h 5 (by decide), h 6 (by decide), h 7 (by decide), h 8 (by decide), h 9 (by decide), h 10 (by decide)⟩

set_option maxRecDepth 100000 in
theorem listS1_any (ka t o n cp : Nat) (ao : Option Addr) (w : World) (hk : Cap ka t o w) (h : w.cell? ⟨t, o, none⟩ = some (.slice ao n cp)) :
    Calls Tryz.prog 141 #[.pointer (some ⟨ka, 0, none⟩)] w fun e w' => e = .returned (.bool (decide (0 < n))) ∧ Below w.heap.size w w' := by
  by_cases hn : 0 < n
  · have HE : Hid (decide (0 < n) = true) := Lib.hid (decide_eq_true hn)
    have i0 : (0 : Int) < (n : Int) := by omega
    go_enter Tryz.func141, Tryz.ntmps141
    go_wp2
    go_ret
    exact ⟨by rw [HE.out]; try rfl, Below.refl _ _⟩
  · obtain rfl : n = 0 := by omega
    go_enter Tryz.func141, Tryz.ntmps141
    go_wp2
    go_ret
    exact ⟨rfl, Below.refl _ _⟩

set_option maxRecDepth 100000 in
set_option maxHeartbeats 4000000 in
theorem listS2_any (B b ka km kl t o F most : Nat) (C : Array Value) (l : List (List UInt8)) (bb off cp : Nat) (L : (List UInt8)) (w0 w : World) (eb : (List UInt8) → (List UInt8)) (eo : (List UInt8) → Bool) (em : Nat) (hem : ∀ x, eo x = true → (eb x).length ≤ em) (hent : Ent F) (hS : Sta B w0 w) (hW : Pk.Wr B b L w)
    (hA : ∀ w1, Sta B w0 w1 → LLay ka km kl t o F C most (.slice (some ⟨bb, off, none⟩) l.length cp) w1) (hc : ∀ w1, Sta B w0 w1 → ∀ i x, l[i]? = some x → w1.cell? ⟨bb, off + i, none⟩ = some (.string ⟨x.toArray⟩)) (hln : l.length ≤ 9223372036854775807) (hm : most ≤ 10240) (hL : L.length + (3 + most * em) ≤ 9000000)
    (hE : ∀ (x : (List UInt8)), x ∈ l → ∀ w1 L1, Sta B w0 w1 → Pk.Wr B b L1 w1 → L1.length + em ≤ 9000000 → Calls Tryz.prog F (#[.pointer (some ⟨b, 0, none⟩), .string ⟨x.toArray⟩] ++ C) w1 (Lays B b L1 (eb x) (eo x) w1)) :
    Calls Tryz.prog 142 #[.pointer (some ⟨b, 0, none⟩), .pointer (some ⟨ka, 0, none⟩), .pointer (some ⟨km, 0, none⟩), .pointer (some ⟨kl, 0, none⟩)] w (Lays B b L (headP 3 l.length ++ l.flatMap eb) (decide (l.length ≤ most) && l.all eo) w) := by
  have HA := Lib.hid hA
  have HS := Lib.hid hS
  have HW := Lib.hid hW
  have HC := Lib.hid hc
  have HEL := Lib.hid hE
  have HENT := Lib.hid hent
  have HEM := Lib.hid hem
  have HSZ := Lib.hid (show B ≤ w.heap.size from by have := hW.lt; have := hW.hB; omega)
  have HLL := Lib.hid hL
  have m1 : (most : Int) ≤ 10240 := by omega
  have l1 : (l.length : Int) ≤ 9223372036854775807 := by omega
  have hH0 := hA w.drew (hS.next (Below.refl _ _).drew)
  clear hA hS hW hc hE hent hem hL hln
  by_cases hle : l.length ≤ most
  · have HLE : Hid (decide (l.length ≤ most) = true) := Lib.hid (decide_eq_true hle)
    have l2 : (l.length : Int) ≤ 10240 := by omega
    rw [HLE.out, Bool.true_and]
    have HLM := Lib.hid hle
    have hlp : Pk.listP 3 (l.length : Int) = (headP 3 l.length, 0) := by rw [Pk.listP, if_neg (by omega), if_neg (by omega)]; rfl
    have HM0 := Pk.list_any B b L (l.length : Int) w.drew (HW.out.next (Below.refl _ _).drew) (by have := HLL.out; omega) (by omega) (by omega)
    rw [hlp] at HM0
    simp only [ne_eq, not_true_eq_false, false_implies, and_true] at HM0
    have HM := Lib.hid HM0
    have HH1 := Lib.hid (headP_len 3 l.length)
    have HS8 := Lib.hid (HS.out.next (Below.refl w.heap.size w).drew)
    have HB8 : Hid (Pk.Bel B w w.drew) := Lib.hid (Pk.Bel.fresh (Below.refl _ _).drew HSZ.out)
    clear HM0 hlp hle
    go_enter Tryz.func142, Tryz.ntmps142
    go_upto_region 0 with fail
    refine wp_region_held_drew (S := fun w' => LLay ka km kl t o F C most (.slice (some ⟨bb, off, none⟩) l.length cp) w') (by kernel_rfl) hH0 (fun hH => ?_)
    generalize w.drew = w8 at *
    refine wpAnyH_take (i := 0) (oi := ⟨some 7, .load 108 (.tmp 1), _, _, _, none⟩) (v := .pointer (some ⟨t, o, none⟩)) rfl (by kernel_rfl) (by kernel_rfl) (by kernel_rfl) (fun _ _ _ h => h) (Or.inl ⟨by rfl, fun w hS => by have c0 := hS.a; go_simp⟩) hH ?_
    try simp only [Act.put, List.setIfInBounds_toArray, List.set_cons_succ, List.set_cons_zero]
    refine wpAnyH_take (i := 1) (oi := ⟨some 8, .nilCheck (.tmp 7), _, _, _, none⟩) (v := .pointer (some ⟨t, o, none⟩)) rfl (by kernel_rfl) (by kernel_rfl) (by kernel_rfl) (fun _ _ _ h => h) (Or.inl ⟨by rfl, fun _ _ => rfl⟩) hH ?_
    try simp only [Act.put, List.setIfInBounds_toArray, List.set_cons_succ, List.set_cons_zero]
    refine wpAnyH_take (i := 2) (oi := ⟨some 9, .load 25 (.tmp 8), _, _, _, none⟩) (v := .slice (some ⟨bb, off, none⟩) l.length cp) rfl (by kernel_rfl) (by kernel_rfl) (by kernel_rfl) (fun _ _ _ h => h) (Or.inl ⟨by rfl, fun w hS => by have c0 := hS.c; go_simp⟩) hH ?_
    try simp only [Act.put, List.setIfInBounds_toArray, List.set_cons_succ, List.set_cons_zero]
    refine wpAnyH_take (i := 3) (oi := ⟨some 10, .call ⟨.builtin .len, #[.tmp 9], #[25]⟩, _, _, _, none⟩) (v := .int .i64 (l.length : Int)) rfl (by kernel_rfl) (by kernel_rfl) (by kernel_rfl) (fun _ _ _ h => h) (Or.inl ⟨by rfl, fun w _ => by go_simp⟩) hH ?_
    try simp only [Act.put, List.setIfInBounds_toArray, List.set_cons_succ, List.set_cons_zero]
    refine wpAnyH_take (i := 4) (oi := ⟨some 11, .load 3 (.tmp 2), _, _, _, none⟩) (v := .int .i64 (most : Int)) rfl (by kernel_rfl) (by kernel_rfl) (by kernel_rfl) (fun _ _ _ h => h) (Or.inl ⟨by rfl, fun w hS => by have c0 := hS.m; go_simp⟩) hH ?_
    try simp only [Act.put, List.setIfInBounds_toArray, List.set_cons_succ, List.set_cons_zero]
    refine wpAnyH_take (i := 5) (oi := ⟨some 12, .binOp .leq 3 (.tmp 10) (.tmp 11) 3, _, _, _, none⟩) (v := .bool true) rfl (by kernel_rfl) (by kernel_rfl) (by kernel_rfl) (fun _ _ _ h => h) (Or.inl ⟨by rfl, fun w _ => by have hle := HLE.out; go_simp⟩) hH ?_
    try simp only [Act.put, List.setIfInBounds_toArray, List.set_cons_succ, List.set_cons_zero]
    refine wpAnyH_ready (rs := [6]) (by kernel_rfl) (by simp) (AllReadyH.cons (o := ⟨some 13, .call ⟨.value (.func 117), #[.tmp 12, .const (.int .i64 2)], #[4, 32]⟩, _, _, _, none⟩) rfl (fun K hK => ?_) AllReadyH.nil)
    have HK := Lib.hid hK
    clear hK
    go_simp
    refine (must_yes 2 w8).mono ?_
    rintro e w8 ⟨rfl, rfl⟩
    refine HK.out.out _ _ hH (fun _ => ?_)
    clear HK K
    try simp only [Act.put, List.setIfInBounds_toArray, List.set_cons_succ, List.set_cons_zero]
    refine wpAnyH_done (by kernel_rfl) ?_ _
    have a8 := hH.a
    have c8 := hH.c
    have HA8 := Lib.hid hH
    clear hH
    go_upto_region 3 with (go_at_call 143; refine HM.out.mono ?_; rintro e w3 ⟨rfl, hw3, hb3⟩; have HW3 := Lib.hid hw3; have HS3 := Lib.hid (HS8.out.bel hb3); have HB3 := Lib.hid (HB8.out.trans hb3); have a8 := (HA.out w3 HS3.out).a; have c8 := (HA.out w3 HS3.out).c; clear hw3 hb3)
    go_loopw [24] (fun i wr => ∃ k : Nat, k ≤ l.length ∧ i = .int .i64 (k : Int) ∧ Hid ((l.take k).all eo = true) ∧ Hid (Pk.Wr B b (L ++ headP 3 l.length ++ (l.take k).flatMap eb) wr) ∧ Hid (Pk.Bel B w wr) ∧ Hid (Sta B w0 wr)) (fun i _ => (l.length : Int).toNat - (intOf i).toNat)
    case atStart => exact ⟨0, Nat.zero_le _, rfl, Lib.hid rfl, Lib.hid (by simpa using HW3.out), HB3, HS3⟩
    case round =>
      obtain ⟨k, hk, rfl, HK4, HW4, HB4, HS4⟩ := hrel
      by_cases hke : k = l.length
      · subst hke
        have hl : ¬ (l.length : Int) < (l.length : Int) := by omega
        have HE : Hid (Lays B b L (headP 3 l.length ++ l.flatMap eb) (l.all eo) w (.returned (.tuple #[])) wr) := Lib.hid (by
          have h1 := HK4.out
          have h2 := HW4.out
          rw [List.take_length] at h1 h2
          exact .inl ⟨h1, rfl, by rw [← List.append_assoc]; exact h2, HB4.out⟩)
        go_wp2
        exact bodyPost_end (results_none rfl _ _ _) rfl HE.out
      · have hkl : k < l.length := by omega
        obtain ⟨x, hx⟩ : ∃ x, l[k]? = some x := ⟨_, List.getElem?_eq_getElem hkl⟩
        have HTK : Hid (l.take (k + 1) = l.take k ++ [x]) := Lib.hid (by rw [List.take_add_one, hx]; rfl)
        have hll := lists_len eb eo em HEM.out (l.take k) HK4.out
        have hlm : (l.take k).length * em + em ≤ most * em := by
          rw [List.length_take, Nat.min_eq_left (by omega), ← Nat.succ_mul]
          exact Nat.mul_le_mul_right em (by have := HLM.out; omega)
        obtain ⟨L4, hL4⟩ : ∃ L4, L ++ headP 3 l.length ++ (l.take k).flatMap eb = L4 := ⟨_, rfl⟩
        have hl4 : L4.length + em ≤ 9000000 := by
          rw [← hL4, List.length_append, List.length_append]
          have := HLL.out; have := HH1.out; omega
        rw [hL4] at HW4
        have HL4 := Lib.hid hL4
        have HXL := Lib.hid (List.mem_of_getElem? hx)
        have f4 := (HA.out wr HS4.out).f
        have hf4 := World.block_lt_of_cell? wr _ f4
        have hent := HENT.out
        simp only [Ent] at hent
        have hl : (k : Int) < (l.length : Int) := by omega
        have i0 : (0 : Int) ≤ (k : Int) := by omega
        have c4 := HC.out wr HS4.out k x hx
        have HF := Lib.hid (HEL.out x HXL.out wr L4 HS4.out HW4.out hl4)
        clear hke hll hlm hL4 hx hl4
        go_wp2
        refine HF.out.mono ?_
        rintro e w6 (⟨hok, rfl, hw6, hb6⟩ | ⟨hok, ⟨g, hg1, rfl, hg2, hg3⟩, hb6⟩)
        · have HK6 : Hid ((l.take (k + 1)).all eo = true) := Lib.hid (by rw [HTK.out, List.all_append, HK4.out]; simp [hok])
          have HW6 : Hid (Pk.Wr B b (L ++ headP 3 l.length ++ (l.take (k + 1)).flatMap eb) w6) := Lib.hid (by
            rw [HTK.out, List.flatMap_append, ← List.append_assoc, HL4.out]
            simpa using hw6)
          have HB6 := Lib.hid (HB4.out.trans hb6)
          have HS6 := Lib.hid (HS4.out.bel hb6)
          clear hw6 hb6 hok hf4 f4 c4
          go_wp2
          go_roundw
          case rel => exact ⟨k + 1, hkl, by go_num, HK6, HW6, HB6, HS6⟩
          case measure => simp [intOf] <;> omega
        · have HE : Hid (Lays B b L (headP 3 l.length ++ l.flatMap eb) (l.all eo) w (upF g) w6) := Lib.hid (.inr ⟨by
            rw [← List.take_append_drop (k + 1) l, List.all_append, HTK.out, List.all_append]
            simp [hok], ⟨g, hg1, rfl, hg2, hg3⟩, HB4.out.b.trans hb6⟩)
          exact ⟨rfl, HE.out⟩
  · have HLE : Hid (decide (l.length ≤ most) = false) := Lib.hid (decide_eq_false hle)
    rw [HLE.out, Bool.false_and]
    have HB8 : Hid (Pk.Bel B w w.drew) := Lib.hid (Pk.Bel.fresh (Below.refl _ _).drew HSZ.out)
    have HSZ8 : Hid (B ≤ w.drew.heap.size) := Lib.hid HSZ.out
    clear hle
    go_enter Tryz.func142, Tryz.ntmps142
    go_upto_region 0 with fail
    refine wp_region_held_drew (S := fun w' => LLay ka km kl t o F C most (.slice (some ⟨bb, off, none⟩) l.length cp) w') (by kernel_rfl) hH0 (fun hH => ?_)
    generalize w.drew = w8 at *
    refine wpAnyH_take (i := 0) (oi := ⟨some 7, .load 108 (.tmp 1), _, _, _, none⟩) (v := .pointer (some ⟨t, o, none⟩)) rfl (by kernel_rfl) (by kernel_rfl) (by kernel_rfl) (fun _ _ _ h => h) (Or.inl ⟨by rfl, fun w hS => by have c0 := hS.a; go_simp⟩) hH ?_
    try simp only [Act.put, List.setIfInBounds_toArray, List.set_cons_succ, List.set_cons_zero]
    refine wpAnyH_take (i := 1) (oi := ⟨some 8, .nilCheck (.tmp 7), _, _, _, none⟩) (v := .pointer (some ⟨t, o, none⟩)) rfl (by kernel_rfl) (by kernel_rfl) (by kernel_rfl) (fun _ _ _ h => h) (Or.inl ⟨by rfl, fun _ _ => rfl⟩) hH ?_
    try simp only [Act.put, List.setIfInBounds_toArray, List.set_cons_succ, List.set_cons_zero]
    refine wpAnyH_take (i := 2) (oi := ⟨some 9, .load 25 (.tmp 8), _, _, _, none⟩) (v := .slice (some ⟨bb, off, none⟩) l.length cp) rfl (by kernel_rfl) (by kernel_rfl) (by kernel_rfl) (fun _ _ _ h => h) (Or.inl ⟨by rfl, fun w hS => by have c0 := hS.c; go_simp⟩) hH ?_
    try simp only [Act.put, List.setIfInBounds_toArray, List.set_cons_succ, List.set_cons_zero]
    refine wpAnyH_take (i := 3) (oi := ⟨some 10, .call ⟨.builtin .len, #[.tmp 9], #[25]⟩, _, _, _, none⟩) (v := .int .i64 (l.length : Int)) rfl (by kernel_rfl) (by kernel_rfl) (by kernel_rfl) (fun _ _ _ h => h) (Or.inl ⟨by rfl, fun w _ => by go_simp⟩) hH ?_
    try simp only [Act.put, List.setIfInBounds_toArray, List.set_cons_succ, List.set_cons_zero]
    refine wpAnyH_take (i := 4) (oi := ⟨some 11, .load 3 (.tmp 2), _, _, _, none⟩) (v := .int .i64 (most : Int)) rfl (by kernel_rfl) (by kernel_rfl) (by kernel_rfl) (fun _ _ _ h => h) (Or.inl ⟨by rfl, fun w hS => by have c0 := hS.m; go_simp⟩) hH ?_
    try simp only [Act.put, List.setIfInBounds_toArray, List.set_cons_succ, List.set_cons_zero]
    refine wpAnyH_take (i := 5) (oi := ⟨some 12, .binOp .leq 3 (.tmp 10) (.tmp 11) 3, _, _, _, none⟩) (v := .bool false) rfl (by kernel_rfl) (by kernel_rfl) (by kernel_rfl) (fun _ _ _ h => h) (Or.inl ⟨by rfl, fun w _ => by have hle := HLE.out; go_simp⟩) hH ?_
    try simp only [Act.put, List.setIfInBounds_toArray, List.set_cons_succ, List.set_cons_zero]
    refine wpAnyH_ready (rs := [6]) (by kernel_rfl) (by simp) (AllReadyH.cons (o := ⟨some 13, .call ⟨.value (.func 117), #[.tmp 12, .const (.int .i64 2)], #[4, 32]⟩, _, _, _, none⟩) rfl (fun K hK => ?_) AllReadyH.nil)
    have HK := Lib.hid hK
    clear hK
    go_simp
    refine (must_no 2 w8).mono ?_
    rintro e w9 ⟨⟨f, hf, rfl, hf0, hf1⟩, hb9⟩
    exact ⟨rfl, .inr ⟨rfl, ⟨f, Nat.le_trans HSZ8.out hf, rfl, hf0, hf1⟩, HB8.out.b.trans (hb9.mono HSZ8.out)⟩⟩

set_option maxRecDepth 100000 in
theorem listN1_any (ka t o n cp : Nat) (ao : Option Addr) (w : World) (hk : Cap ka t o w) (h : w.cell? ⟨t, o, none⟩ = some (.slice ao n cp)) :
    Calls Tryz.prog 148 #[.pointer (some ⟨ka, 0, none⟩)] w fun e w' => e = .returned (.bool (decide (0 < n))) ∧ Below w.heap.size w w' := by
  by_cases hn : 0 < n
  · have HE : Hid (decide (0 < n) = true) := Lib.hid (decide_eq_true hn)
    have i0 : (0 : Int) < (n : Int) := by omega
    go_enter Tryz.func148, Tryz.ntmps148
    go_wp2
    go_ret
    exact ⟨by rw [HE.out]; try rfl, Below.refl _ _⟩
  · obtain rfl : n = 0 := by omega
    go_enter Tryz.func148, Tryz.ntmps148
    go_wp2
    go_ret
    exact ⟨rfl, Below.refl _ _⟩

set_option maxRecDepth 100000 in
set_option maxHeartbeats 4000000 in
theorem listN2_any (B b ka km kl t o F most : Nat) (C : Array Value) (l : List Nat) (bb off cp : Nat) (L : (List UInt8)) (w0 w : World) (eb : Nat → (List UInt8)) (eo : Nat → Bool) (em : Nat) (hem : ∀ x, eo x = true → (eb x).length ≤ em) (hent : Ent F) (hS : Sta B w0 w) (hW : Pk.Wr B b L w)
    (hA : ∀ w1, Sta B w0 w1 → LLay ka km kl t o F C most (.slice (some ⟨bb, off, none⟩) l.length cp) w1) (hc : (∀ x ∈ l, x < 18446744073709551616) ∧ ∀ w1, Sta B w0 w1 → ∀ i (x : Nat), l[i]? = some x → w1.cell? ⟨bb, off + i, none⟩ = some (.int .u64 (x : Int))) (hln : l.length ≤ 9223372036854775807) (hm : most ≤ 10240) (hL : L.length + (3 + most * em) ≤ 9000000)
    (hE : ∀ (x : Nat), x ∈ l → ∀ w1 L1, Sta B w0 w1 → Pk.Wr B b L1 w1 → L1.length + em ≤ 9000000 → Calls Tryz.prog F (#[.pointer (some ⟨b, 0, none⟩), .int .u64 (x : Int)] ++ C) w1 (Lays B b L1 (eb x) (eo x) w1)) :
    Calls Tryz.prog 149 #[.pointer (some ⟨b, 0, none⟩), .pointer (some ⟨ka, 0, none⟩), .pointer (some ⟨km, 0, none⟩), .pointer (some ⟨kl, 0, none⟩)] w (Lays B b L (headP 3 l.length ++ l.flatMap eb) (decide (l.length ≤ most) && l.all eo) w) := by
  have HA := Lib.hid hA
  have HS := Lib.hid hS
  have HW := Lib.hid hW
  have HC := Lib.hid hc
  have HEL := Lib.hid hE
  have HENT := Lib.hid hent
  have HEM := Lib.hid hem
  have HSZ := Lib.hid (show B ≤ w.heap.size from by have := hW.lt; have := hW.hB; omega)
  have HLL := Lib.hid hL
  have m1 : (most : Int) ≤ 10240 := by omega
  have l1 : (l.length : Int) ≤ 9223372036854775807 := by omega
  have hH0 := hA w.drew (hS.next (Below.refl _ _).drew)
  clear hA hS hW hc hE hent hem hL hln
  by_cases hle : l.length ≤ most
  · have HLE : Hid (decide (l.length ≤ most) = true) := Lib.hid (decide_eq_true hle)
    have l2 : (l.length : Int) ≤ 10240 := by omega
    rw [HLE.out, Bool.true_and]
    have HLM := Lib.hid hle
    have hlp : Pk.listP 3 (l.length : Int) = (headP 3 l.length, 0) := by rw [Pk.listP, if_neg (by omega), if_neg (by omega)]; rfl
    have HM0 := Pk.list_any B b L (l.length : Int) w.drew (HW.out.next (Below.refl _ _).drew) (by have := HLL.out; omega) (by omega) (by omega)
    rw [hlp] at HM0
    simp only [ne_eq, not_true_eq_false, false_implies, and_true] at HM0
    have HM := Lib.hid HM0
    have HH1 := Lib.hid (headP_len 3 l.length)
    have HS8 := Lib.hid (HS.out.next (Below.refl w.heap.size w).drew)
    have HB8 : Hid (Pk.Bel B w w.drew) := Lib.hid (Pk.Bel.fresh (Below.refl _ _).drew HSZ.out)
    clear HM0 hlp hle
    go_enter Tryz.func149, Tryz.ntmps149
    go_upto_region 0 with fail
    refine wp_region_held_drew (S := fun w' => LLay ka km kl t o F C most (.slice (some ⟨bb, off, none⟩) l.length cp) w') (by kernel_rfl) hH0 (fun hH => ?_)
    generalize w.drew = w8 at *
    refine wpAnyH_take (i := 0) (oi := ⟨some 7, .load 112 (.tmp 1), _, _, _, none⟩) (v := .pointer (some ⟨t, o, none⟩)) rfl (by kernel_rfl) (by kernel_rfl) (by kernel_rfl) (fun _ _ _ h => h) (Or.inl ⟨by rfl, fun w hS => by have c0 := hS.a; go_simp⟩) hH ?_
    try simp only [Act.put, List.setIfInBounds_toArray, List.set_cons_succ, List.set_cons_zero]
    refine wpAnyH_take (i := 1) (oi := ⟨some 8, .nilCheck (.tmp 7), _, _, _, none⟩) (v := .pointer (some ⟨t, o, none⟩)) rfl (by kernel_rfl) (by kernel_rfl) (by kernel_rfl) (fun _ _ _ h => h) (Or.inl ⟨by rfl, fun _ _ => rfl⟩) hH ?_
    try simp only [Act.put, List.setIfInBounds_toArray, List.set_cons_succ, List.set_cons_zero]
    refine wpAnyH_take (i := 2) (oi := ⟨some 9, .load 24 (.tmp 8), _, _, _, none⟩) (v := .slice (some ⟨bb, off, none⟩) l.length cp) rfl (by kernel_rfl) (by kernel_rfl) (by kernel_rfl) (fun _ _ _ h => h) (Or.inl ⟨by rfl, fun w hS => by have c0 := hS.c; go_simp⟩) hH ?_
    try simp only [Act.put, List.setIfInBounds_toArray, List.set_cons_succ, List.set_cons_zero]
    refine wpAnyH_take (i := 3) (oi := ⟨some 10, .call ⟨.builtin .len, #[.tmp 9], #[24]⟩, _, _, _, none⟩) (v := .int .i64 (l.length : Int)) rfl (by kernel_rfl) (by kernel_rfl) (by kernel_rfl) (fun _ _ _ h => h) (Or.inl ⟨by rfl, fun w _ => by go_simp⟩) hH ?_
    try simp only [Act.put, List.setIfInBounds_toArray, List.set_cons_succ, List.set_cons_zero]
    refine wpAnyH_take (i := 4) (oi := ⟨some 11, .load 3 (.tmp 2), _, _, _, none⟩) (v := .int .i64 (most : Int)) rfl (by kernel_rfl) (by kernel_rfl) (by kernel_rfl) (fun _ _ _ h => h) (Or.inl ⟨by rfl, fun w hS => by have c0 := hS.m; go_simp⟩) hH ?_
    try simp only [Act.put, List.setIfInBounds_toArray, List.set_cons_succ, List.set_cons_zero]
    refine wpAnyH_take (i := 5) (oi := ⟨some 12, .binOp .leq 3 (.tmp 10) (.tmp 11) 3, _, _, _, none⟩) (v := .bool true) rfl (by kernel_rfl) (by kernel_rfl) (by kernel_rfl) (fun _ _ _ h => h) (Or.inl ⟨by rfl, fun w _ => by have hle := HLE.out; go_simp⟩) hH ?_
    try simp only [Act.put, List.setIfInBounds_toArray, List.set_cons_succ, List.set_cons_zero]
    refine wpAnyH_ready (rs := [6]) (by kernel_rfl) (by simp) (AllReadyH.cons (o := ⟨some 13, .call ⟨.value (.func 117), #[.tmp 12, .const (.int .i64 2)], #[4, 32]⟩, _, _, _, none⟩) rfl (fun K hK => ?_) AllReadyH.nil)
    have HK := Lib.hid hK
    clear hK
    go_simp
    refine (must_yes 2 w8).mono ?_
    rintro e w8 ⟨rfl, rfl⟩
    refine HK.out.out _ _ hH (fun _ => ?_)
    clear HK K
    try simp only [Act.put, List.setIfInBounds_toArray, List.set_cons_succ, List.set_cons_zero]
    refine wpAnyH_done (by kernel_rfl) ?_ _
    have a8 := hH.a
    have c8 := hH.c
    have HA8 := Lib.hid hH
    clear hH
    go_upto_region 3 with (go_at_call 143; refine HM.out.mono ?_; rintro e w3 ⟨rfl, hw3, hb3⟩; have HW3 := Lib.hid hw3; have HS3 := Lib.hid (HS8.out.bel hb3); have HB3 := Lib.hid (HB8.out.trans hb3); have a8 := (HA.out w3 HS3.out).a; have c8 := (HA.out w3 HS3.out).c; clear hw3 hb3)
    go_loopw [24] (fun i wr => ∃ k : Nat, k ≤ l.length ∧ i = .int .i64 (k : Int) ∧ Hid ((l.take k).all eo = true) ∧ Hid (Pk.Wr B b (L ++ headP 3 l.length ++ (l.take k).flatMap eb) wr) ∧ Hid (Pk.Bel B w wr) ∧ Hid (Sta B w0 wr)) (fun i _ => (l.length : Int).toNat - (intOf i).toNat)
    case atStart => exact ⟨0, Nat.zero_le _, rfl, Lib.hid rfl, Lib.hid (by simpa using HW3.out), HB3, HS3⟩
    case round =>
      obtain ⟨k, hk, rfl, HK4, HW4, HB4, HS4⟩ := hrel
      by_cases hke : k = l.length
      · subst hke
        have hl : ¬ (l.length : Int) < (l.length : Int) := by omega
        have HE : Hid (Lays B b L (headP 3 l.length ++ l.flatMap eb) (l.all eo) w (.returned (.tuple #[])) wr) := Lib.hid (by
          have h1 := HK4.out
          have h2 := HW4.out
          rw [List.take_length] at h1 h2
          exact .inl ⟨h1, rfl, by rw [← List.append_assoc]; exact h2, HB4.out⟩)
        go_wp2
        exact bodyPost_end (results_none rfl _ _ _) rfl HE.out
      · have hkl : k < l.length := by omega
        obtain ⟨x, hx⟩ : ∃ x, l[k]? = some x := ⟨_, List.getElem?_eq_getElem hkl⟩
        have HTK : Hid (l.take (k + 1) = l.take k ++ [x]) := Lib.hid (by rw [List.take_add_one, hx]; rfl)
        have hll := lists_len eb eo em HEM.out (l.take k) HK4.out
        have hlm : (l.take k).length * em + em ≤ most * em := by
          rw [List.length_take, Nat.min_eq_left (by omega), ← Nat.succ_mul]
          exact Nat.mul_le_mul_right em (by have := HLM.out; omega)
        obtain ⟨L4, hL4⟩ : ∃ L4, L ++ headP 3 l.length ++ (l.take k).flatMap eb = L4 := ⟨_, rfl⟩
        have hl4 : L4.length + em ≤ 9000000 := by
          rw [← hL4, List.length_append, List.length_append]
          have := HLL.out; have := HH1.out; omega
        rw [hL4] at HW4
        have HL4 := Lib.hid hL4
        have HXL := Lib.hid (List.mem_of_getElem? hx)
        have f4 := (HA.out wr HS4.out).f
        have hf4 := World.block_lt_of_cell? wr _ f4
        have hent := HENT.out
        simp only [Ent] at hent
        have hl : (k : Int) < (l.length : Int) := by omega
        have i0 : (0 : Int) ≤ (k : Int) := by omega
        have c4 := HC.out.2 wr HS4.out k x hx
        have HF := Lib.hid (HEL.out x HXL.out wr L4 HS4.out HW4.out hl4)
        clear hke hll hlm hL4 hx hl4
        go_wp2
        refine HF.out.mono ?_
        rintro e w6 (⟨hok, rfl, hw6, hb6⟩ | ⟨hok, ⟨g, hg1, rfl, hg2, hg3⟩, hb6⟩)
        · have HK6 : Hid ((l.take (k + 1)).all eo = true) := Lib.hid (by rw [HTK.out, List.all_append, HK4.out]; simp [hok])
          have HW6 : Hid (Pk.Wr B b (L ++ headP 3 l.length ++ (l.take (k + 1)).flatMap eb) w6) := Lib.hid (by
            rw [HTK.out, List.flatMap_append, ← List.append_assoc, HL4.out]
            simpa using hw6)
          have HB6 := Lib.hid (HB4.out.trans hb6)
          have HS6 := Lib.hid (HS4.out.bel hb6)
          clear hw6 hb6 hok hf4 f4 c4
          go_wp2
          go_roundw
          case rel => exact ⟨k + 1, hkl, by go_num, HK6, HW6, HB6, HS6⟩
          case measure => simp [intOf] <;> omega
        · have HE : Hid (Lays B b L (headP 3 l.length ++ l.flatMap eb) (l.all eo) w (upF g) w6) := Lib.hid (.inr ⟨by
            rw [← List.take_append_drop (k + 1) l, List.all_append, HTK.out, List.all_append]
            simp [hok], ⟨g, hg1, rfl, hg2, hg3⟩, HB4.out.b.trans hb6⟩)
          exact ⟨rfl, HE.out⟩
  · have HLE : Hid (decide (l.length ≤ most) = false) := Lib.hid (decide_eq_false hle)
    rw [HLE.out, Bool.false_and]
    have HB8 : Hid (Pk.Bel B w w.drew) := Lib.hid (Pk.Bel.fresh (Below.refl _ _).drew HSZ.out)
    have HSZ8 : Hid (B ≤ w.drew.heap.size) := Lib.hid HSZ.out
    clear hle
    go_enter Tryz.func149, Tryz.ntmps149
    go_upto_region 0 with fail
    refine wp_region_held_drew (S := fun w' => LLay ka km kl t o F C most (.slice (some ⟨bb, off, none⟩) l.length cp) w') (by kernel_rfl) hH0 (fun hH => ?_)
    generalize w.drew = w8 at *
    refine wpAnyH_take (i := 0) (oi := ⟨some 7, .load 112 (.tmp 1), _, _, _, none⟩) (v := .pointer (some ⟨t, o, none⟩)) rfl (by kernel_rfl) (by kernel_rfl) (by kernel_rfl) (fun _ _ _ h => h) (Or.inl ⟨by rfl, fun w hS => by have c0 := hS.a; go_simp⟩) hH ?_
    try simp only [Act.put, List.setIfInBounds_toArray, List.set_cons_succ, List.set_cons_zero]
    refine wpAnyH_take (i := 1) (oi := ⟨some 8, .nilCheck (.tmp 7), _, _, _, none⟩) (v := .pointer (some ⟨t, o, none⟩)) rfl (by kernel_rfl) (by kernel_rfl) (by kernel_rfl) (fun _ _ _ h => h) (Or.inl ⟨by rfl, fun _ _ => rfl⟩) hH ?_
    try simp only [Act.put, List.setIfInBounds_toArray, List.set_cons_succ, List.set_cons_zero]
    refine wpAnyH_take (i := 2) (oi := ⟨some 9, .load 24 (.tmp 8), _, _, _, none⟩) (v := .slice (some ⟨bb, off, none⟩) l.length cp) rfl (by kernel_rfl) (by kernel_rfl) (by kernel_rfl) (fun _ _ _ h => h) (Or.inl ⟨by rfl, fun w hS => by have c0 := hS.c; go_simp⟩) hH ?_
    try simp only [Act.put, List.setIfInBounds_toArray, List.set_cons_succ, List.set_cons_zero]
    refine wpAnyH_take (i := 3) (oi := ⟨some 10, .call ⟨.builtin .len, #[.tmp 9], #[24]⟩, _, _, _, none⟩) (v := .int .i64 (l.length : Int)) rfl (by kernel_rfl) (by kernel_rfl) (by kernel_rfl) (fun _ _ _ h => h) (Or.inl ⟨by rfl, fun w _ => by go_simp⟩) hH ?_
    try simp only [Act.put, List.setIfInBounds_toArray, List.set_cons_succ, List.set_cons_zero]
    refine wpAnyH_take (i := 4) (oi := ⟨some 11, .load 3 (.tmp 2), _, _, _, none⟩) (v := .int .i64 (most : Int)) rfl (by kernel_rfl) (by kernel_rfl) (by kernel_rfl) (fun _ _ _ h => h) (Or.inl ⟨by rfl, fun w hS => by have c0 := hS.m; go_simp⟩) hH ?_
    try simp only [Act.put, List.setIfInBounds_toArray, List.set_cons_succ, List.set_cons_zero]
    refine wpAnyH_take (i := 5) (oi := ⟨some 12, .binOp .leq 3 (.tmp 10) (.tmp 11) 3, _, _, _, none⟩) (v := .bool false) rfl (by kernel_rfl) (by kernel_rfl) (by kernel_rfl) (fun _ _ _ h => h) (Or.inl ⟨by rfl, fun w _ => by have hle := HLE.out; go_simp⟩) hH ?_
    try simp only [Act.put, List.setIfInBounds_toArray, List.set_cons_succ, List.set_cons_zero]
    refine wpAnyH_ready (rs := [6]) (by kernel_rfl) (by simp) (AllReadyH.cons (o := ⟨some 13, .call ⟨.value (.func 117), #[.tmp 12, .const (.int .i64 2)], #[4, 32]⟩, _, _, _, none⟩) rfl (fun K hK => ?_) AllReadyH.nil)
    have HK := Lib.hid hK
    clear hK
    go_simp
    refine (must_no 2 w8).mono ?_
    rintro e w9 ⟨⟨f, hf, rfl, hf0, hf1⟩, hb9⟩
    exact ⟨rfl, .inr ⟨rfl, ⟨f, Nat.le_trans HSZ8.out hf, rfl, hf0, hf1⟩, HB8.out.b.trans (hb9.mono HSZ8.out)⟩⟩

set_option maxRecDepth 100000 in
theorem listR1_any (ka t o n cp : Nat) (ao : Option Addr) (w : World) (hk : Cap ka t o w) (h : w.cell? ⟨t, o, none⟩ = some (.slice ao n cp)) :
    Calls Tryz.prog 154 #[.pointer (some ⟨ka, 0, none⟩)] w fun e w' => e = .returned (.bool (decide (0 < n))) ∧ Below w.heap.size w w' := by
  by_cases hn : 0 < n
  · have HE : Hid (decide (0 < n) = true) := Lib.hid (decide_eq_true hn)
    have i0 : (0 : Int) < (n : Int) := by omega
    go_enter Tryz.func154, Tryz.ntmps154
    go_wp2
    go_ret
    exact ⟨by rw [HE.out]; try rfl, Below.refl _ _⟩
  · obtain rfl : n = 0 := by omega
    go_enter Tryz.func154, Tryz.ntmps154
    go_wp2
    go_ret
    exact ⟨rfl, Below.refl _ _⟩

set_option maxRecDepth 100000 in
set_option maxHeartbeats 4000000 in
theorem listR2_any (B b ka km kl t o F most : Nat) (C : Array Value) (l : List RevE) (bb off cp : Nat) (L : (List UInt8)) (w0 w : World) (eb : RevE → (List UInt8)) (eo : RevE → Bool) (em : Nat) (hem : ∀ x, eo x = true → (eb x).length ≤ em) (hent : Ent F) (hS : Sta B w0 w) (hW : Pk.Wr B b L w)
    (hA : ∀ w1, Sta B w0 w1 → LLay ka km kl t o F C most (.slice (some ⟨bb, off, none⟩) l.length cp) w1) (hc : ∀ w1, Sta B w0 w1 → ∀ i x, l[i]? = some x → ∀ j, j < 11 → w1.cell? ⟨bb, off + (i * 11 + j), none⟩ = (revQ x)[j]?) (hln : l.length ≤ 9223372036854775807) (hm : most ≤ 10240) (hL : L.length + (3 + most * em) ≤ 9000000)
    (hE : ∀ (x : RevE), x ∈ l → ∀ w1 L1, Sta B w0 w1 → Pk.Wr B b L1 w1 → L1.length + em ≤ 9000000 → Calls Tryz.prog F (#[.pointer (some ⟨b, 0, none⟩), revV x] ++ C) w1 (Lays B b L1 (eb x) (eo x) w1)) :
    Calls Tryz.prog 155 #[.pointer (some ⟨b, 0, none⟩), .pointer (some ⟨ka, 0, none⟩), .pointer (some ⟨km, 0, none⟩), .pointer (some ⟨kl, 0, none⟩)] w (Lays B b L (headP 3 l.length ++ l.flatMap eb) (decide (l.length ≤ most) && l.all eo) w) := by
  have HA := Lib.hid hA
  have HS := Lib.hid hS
  have HW := Lib.hid hW
  have HC := Lib.hid hc
  have HEL := Lib.hid hE
  have HENT := Lib.hid hent
  have HEM := Lib.hid hem
  have HSZ := Lib.hid (show B ≤ w.heap.size from by have := hW.lt; have := hW.hB; omega)
  have HLL := Lib.hid hL
  have m1 : (most : Int) ≤ 10240 := by omega
  have l1 : (l.length : Int) ≤ 9223372036854775807 := by omega
  have hH0 := hA w.drew (hS.next (Below.refl _ _).drew)
  clear hA hS hW hc hE hent hem hL hln
  by_cases hle : l.length ≤ most
  · have HLE : Hid (decide (l.length ≤ most) = true) := Lib.hid (decide_eq_true hle)
    have l2 : (l.length : Int) ≤ 10240 := by omega
    rw [HLE.out, Bool.true_and]
    have HLM := Lib.hid hle
    have hlp : Pk.listP 3 (l.length : Int) = (headP 3 l.length, 0) := by rw [Pk.listP, if_neg (by omega), if_neg (by omega)]; rfl
    have HM0 := Pk.list_any B b L (l.length : Int) w.drew (HW.out.next (Below.refl _ _).drew) (by have := HLL.out; omega) (by omega) (by omega)
    rw [hlp] at HM0
    simp only [ne_eq, not_true_eq_false, false_implies, and_true] at HM0
    have HM := Lib.hid HM0
    have HH1 := Lib.hid (headP_len 3 l.length)
    have HS8 := Lib.hid (HS.out.next (Below.refl w.heap.size w).drew)
    have HB8 : Hid (Pk.Bel B w w.drew) := Lib.hid (Pk.Bel.fresh (Below.refl _ _).drew HSZ.out)
    clear HM0 hlp hle
    go_enter Tryz.func155, Tryz.ntmps155
    go_upto_region 0 with fail
    refine wp_region_held_drew (S := fun w' => LLay ka km kl t o F C most (.slice (some ⟨bb, off, none⟩) l.length cp) w') (by kernel_rfl) hH0 (fun hH => ?_)
    generalize w.drew = w8 at *
    refine wpAnyH_take (i := 0) (oi := ⟨some 7, .load 114 (.tmp 1), _, _, _, none⟩) (v := .pointer (some ⟨t, o, none⟩)) rfl (by kernel_rfl) (by kernel_rfl) (by kernel_rfl) (fun _ _ _ h => h) (Or.inl ⟨by rfl, fun w hS => by have c0 := hS.a; go_simp⟩) hH ?_
    try simp only [Act.put, List.setIfInBounds_toArray, List.set_cons_succ, List.set_cons_zero]
    refine wpAnyH_take (i := 1) (oi := ⟨some 8, .nilCheck (.tmp 7), _, _, _, none⟩) (v := .pointer (some ⟨t, o, none⟩)) rfl (by kernel_rfl) (by kernel_rfl) (by kernel_rfl) (fun _ _ _ h => h) (Or.inl ⟨by rfl, fun _ _ => rfl⟩) hH ?_
    try simp only [Act.put, List.setIfInBounds_toArray, List.set_cons_succ, List.set_cons_zero]
    refine wpAnyH_take (i := 2) (oi := ⟨some 9, .load 23 (.tmp 8), _, _, _, none⟩) (v := .slice (some ⟨bb, off, none⟩) l.length cp) rfl (by kernel_rfl) (by kernel_rfl) (by kernel_rfl) (fun _ _ _ h => h) (Or.inl ⟨by rfl, fun w hS => by have c0 := hS.c; go_simp⟩) hH ?_
    try simp only [Act.put, List.setIfInBounds_toArray, List.set_cons_succ, List.set_cons_zero]
    refine wpAnyH_take (i := 3) (oi := ⟨some 10, .call ⟨.builtin .len, #[.tmp 9], #[23]⟩, _, _, _, none⟩) (v := .int .i64 (l.length : Int)) rfl (by kernel_rfl) (by kernel_rfl) (by kernel_rfl) (fun _ _ _ h => h) (Or.inl ⟨by rfl, fun w _ => by go_simp⟩) hH ?_
    try simp only [Act.put, List.setIfInBounds_toArray, List.set_cons_succ, List.set_cons_zero]
    refine wpAnyH_take (i := 4) (oi := ⟨some 11, .load 3 (.tmp 2), _, _, _, none⟩) (v := .int .i64 (most : Int)) rfl (by kernel_rfl) (by kernel_rfl) (by kernel_rfl) (fun _ _ _ h => h) (Or.inl ⟨by rfl, fun w hS => by have c0 := hS.m; go_simp⟩) hH ?_
    try simp only [Act.put, List.setIfInBounds_toArray, List.set_cons_succ, List.set_cons_zero]
    refine wpAnyH_take (i := 5) (oi := ⟨some 12, .binOp .leq 3 (.tmp 10) (.tmp 11) 3, _, _, _, none⟩) (v := .bool true) rfl (by kernel_rfl) (by kernel_rfl) (by kernel_rfl) (fun _ _ _ h => h) (Or.inl ⟨by rfl, fun w _ => by have hle := HLE.out; go_simp⟩) hH ?_
    try simp only [Act.put, List.setIfInBounds_toArray, List.set_cons_succ, List.set_cons_zero]
    refine wpAnyH_ready (rs := [6]) (by kernel_rfl) (by simp) (AllReadyH.cons (o := ⟨some 13, .call ⟨.value (.func 117), #[.tmp 12, .const (.int .i64 2)], #[4, 32]⟩, _, _, _, none⟩) rfl (fun K hK => ?_) AllReadyH.nil)
    have HK := Lib.hid hK
    clear hK
    go_simp
    refine (must_yes 2 w8).mono ?_
    rintro e w8 ⟨rfl, rfl⟩
    refine HK.out.out _ _ hH (fun _ => ?_)
    clear HK K
    try simp only [Act.put, List.setIfInBounds_toArray, List.set_cons_succ, List.set_cons_zero]
    refine wpAnyH_done (by kernel_rfl) ?_ _
    have a8 := hH.a
    have c8 := hH.c
    have HA8 := Lib.hid hH
    clear hH
    go_upto_region 3 with (go_at_call 143; refine HM.out.mono ?_; rintro e w3 ⟨rfl, hw3, hb3⟩; have HW3 := Lib.hid hw3; have HS3 := Lib.hid (HS8.out.bel hb3); have HB3 := Lib.hid (HB8.out.trans hb3); have a8 := (HA.out w3 HS3.out).a; have c8 := (HA.out w3 HS3.out).c; clear hw3 hb3)
    go_loopw [24] (fun i wr => ∃ k : Nat, k ≤ l.length ∧ i = .int .i64 (k : Int) ∧ Hid ((l.take k).all eo = true) ∧ Hid (Pk.Wr B b (L ++ headP 3 l.length ++ (l.take k).flatMap eb) wr) ∧ Hid (Pk.Bel B w wr) ∧ Hid (Sta B w0 wr)) (fun i _ => (l.length : Int).toNat - (intOf i).toNat)
    case atStart => exact ⟨0, Nat.zero_le _, rfl, Lib.hid rfl, Lib.hid (by simpa using HW3.out), HB3, HS3⟩
    case round =>
      obtain ⟨k, hk, rfl, HK4, HW4, HB4, HS4⟩ := hrel
      by_cases hke : k = l.length
      · subst hke
        have hl : ¬ (l.length : Int) < (l.length : Int) := by omega
        have HE : Hid (Lays B b L (headP 3 l.length ++ l.flatMap eb) (l.all eo) w (.returned (.tuple #[])) wr) := Lib.hid (by
          have h1 := HK4.out
          have h2 := HW4.out
          rw [List.take_length] at h1 h2
          exact .inl ⟨h1, rfl, by rw [← List.append_assoc]; exact h2, HB4.out⟩)
        go_wp2
        exact bodyPost_end (results_none rfl _ _ _) rfl HE.out
      · have hkl : k < l.length := by omega
        obtain ⟨x, hx⟩ : ∃ x, l[k]? = some x := ⟨_, List.getElem?_eq_getElem hkl⟩
        have HTK : Hid (l.take (k + 1) = l.take k ++ [x]) := Lib.hid (by rw [List.take_add_one, hx]; rfl)
        have hll := lists_len eb eo em HEM.out (l.take k) HK4.out
        have hlm : (l.take k).length * em + em ≤ most * em := by
          rw [List.length_take, Nat.min_eq_left (by omega), ← Nat.succ_mul]
          exact Nat.mul_le_mul_right em (by have := HLM.out; omega)
        obtain ⟨L4, hL4⟩ : ∃ L4, L ++ headP 3 l.length ++ (l.take k).flatMap eb = L4 := ⟨_, rfl⟩
        have hl4 : L4.length + em ≤ 9000000 := by
          rw [← hL4, List.length_append, List.length_append]
          have := HLL.out; have := HH1.out; omega
        rw [hL4] at HW4
        have HL4 := Lib.hid hL4
        have HXL := Lib.hid (List.mem_of_getElem? hx)
        have f4 := (HA.out wr HS4.out).f
        have hf4 := World.block_lt_of_cell? wr _ f4
        have hent := HENT.out
        simp only [Ent] at hent
        have hl : (k : Int) < (l.length : Int) := by omega
        have i0 : (0 : Int) ≤ (k : Int) := by omega
        obtain ⟨c0, c1, c2, c3, c4, c5, c6, c7, c8', c9, c10⟩ := rev_cells (w := wr) (bb := bb) (q := off + k * 11) (x := x) (fun j hj => by rw [Nat.add_assoc]; exact HC.out wr HS4.out k x hx j hj)
        have HS5 := Lib.hid (HS4.out.next (by0 wr (.cells #[.int .u64 (x.r.pos : Int), .int .u64 (x.r.slot.l : Int), .bool x.r.slot.signed, .int .u64 (x.r.slot.sig.index : Int), .slice x.wa x.r.slot.sig.wots.length x.wc, .slice x.pa x.r.slot.sig.path.length x.pc, .string ⟨x.r.part.root.toArray⟩, .int .u64 (x.r.part.weight : Int), .int .u64 (x.r.part.first : Int), .int .u64 (x.r.part.life : Int), .int .u64 (x.r.part.keys : Int)] 57)))
        have HB5 := Lib.hid (HB4.out.trans (Pk.Bel.fresh (by0 wr (.cells #[.int .u64 (x.r.pos : Int), .int .u64 (x.r.slot.l : Int), .bool x.r.slot.signed, .int .u64 (x.r.slot.sig.index : Int), .slice x.wa x.r.slot.sig.wots.length x.wc, .slice x.pa x.r.slot.sig.path.length x.pc, .string ⟨x.r.part.root.toArray⟩, .int .u64 (x.r.part.weight : Int), .int .u64 (x.r.part.first : Int), .int .u64 (x.r.part.life : Int), .int .u64 (x.r.part.keys : Int)] 57)) (by have := HW4.out.lt; have := HW4.out.hB; omega)))
        have HF := Lib.hid (HEL.out x HXL.out (wr.alloc (.cells #[.int .u64 (x.r.pos : Int), .int .u64 (x.r.slot.l : Int), .bool x.r.slot.signed, .int .u64 (x.r.slot.sig.index : Int), .slice x.wa x.r.slot.sig.wots.length x.wc, .slice x.pa x.r.slot.sig.path.length x.pc, .string ⟨x.r.part.root.toArray⟩, .int .u64 (x.r.part.weight : Int), .int .u64 (x.r.part.first : Int), .int .u64 (x.r.part.life : Int), .int .u64 (x.r.part.keys : Int)] 57)) L4 HS5.out (HW4.out.next (by0 wr _)) hl4)
        clear hke hll hlm hL4 hx hl4
        go_wp2
        refine HF.out.mono ?_
        rintro e w6 (⟨hok, rfl, hw6, hb6⟩ | ⟨hok, ⟨g, hg1, rfl, hg2, hg3⟩, hb6⟩)
        · have HK6 : Hid ((l.take (k + 1)).all eo = true) := Lib.hid (by rw [HTK.out, List.all_append, HK4.out]; simp [hok])
          have HW6 : Hid (Pk.Wr B b (L ++ headP 3 l.length ++ (l.take (k + 1)).flatMap eb) w6) := Lib.hid (by
            rw [HTK.out, List.flatMap_append, ← List.append_assoc, HL4.out]
            simpa using hw6)
          have HB6 := Lib.hid (HB5.out.trans hb6)
          have HS6 := Lib.hid (HS5.out.bel hb6)
          clear hw6 hb6 hok hf4 f4 c0 c1 c2 c3 c4 c5 c6 c7 c8' c9 c10
          go_wp2
          go_roundw
          case rel => exact ⟨k + 1, hkl, by go_num, HK6, HW6, HB6, HS6⟩
          case measure => simp [intOf] <;> omega
        · have HE : Hid (Lays B b L (headP 3 l.length ++ l.flatMap eb) (l.all eo) w (upF g) w6) := Lib.hid (.inr ⟨by
            rw [← List.take_append_drop (k + 1) l, List.all_append, HTK.out, List.all_append]
            simp [hok], ⟨g, hg1, rfl, hg2, hg3⟩, HB5.out.b.trans hb6⟩)
          exact ⟨rfl, HE.out⟩
  · have HLE : Hid (decide (l.length ≤ most) = false) := Lib.hid (decide_eq_false hle)
    rw [HLE.out, Bool.false_and]
    have HB8 : Hid (Pk.Bel B w w.drew) := Lib.hid (Pk.Bel.fresh (Below.refl _ _).drew HSZ.out)
    have HSZ8 : Hid (B ≤ w.drew.heap.size) := Lib.hid HSZ.out
    clear hle
    go_enter Tryz.func155, Tryz.ntmps155
    go_upto_region 0 with fail
    refine wp_region_held_drew (S := fun w' => LLay ka km kl t o F C most (.slice (some ⟨bb, off, none⟩) l.length cp) w') (by kernel_rfl) hH0 (fun hH => ?_)
    generalize w.drew = w8 at *
    refine wpAnyH_take (i := 0) (oi := ⟨some 7, .load 114 (.tmp 1), _, _, _, none⟩) (v := .pointer (some ⟨t, o, none⟩)) rfl (by kernel_rfl) (by kernel_rfl) (by kernel_rfl) (fun _ _ _ h => h) (Or.inl ⟨by rfl, fun w hS => by have c0 := hS.a; go_simp⟩) hH ?_
    try simp only [Act.put, List.setIfInBounds_toArray, List.set_cons_succ, List.set_cons_zero]
    refine wpAnyH_take (i := 1) (oi := ⟨some 8, .nilCheck (.tmp 7), _, _, _, none⟩) (v := .pointer (some ⟨t, o, none⟩)) rfl (by kernel_rfl) (by kernel_rfl) (by kernel_rfl) (fun _ _ _ h => h) (Or.inl ⟨by rfl, fun _ _ => rfl⟩) hH ?_
    try simp only [Act.put, List.setIfInBounds_toArray, List.set_cons_succ, List.set_cons_zero]
    refine wpAnyH_take (i := 2) (oi := ⟨some 9, .load 23 (.tmp 8), _, _, _, none⟩) (v := .slice (some ⟨bb, off, none⟩) l.length cp) rfl (by kernel_rfl) (by kernel_rfl) (by kernel_rfl) (fun _ _ _ h => h) (Or.inl ⟨by rfl, fun w hS => by have c0 := hS.c; go_simp⟩) hH ?_
    try simp only [Act.put, List.setIfInBounds_toArray, List.set_cons_succ, List.set_cons_zero]
    refine wpAnyH_take (i := 3) (oi := ⟨some 10, .call ⟨.builtin .len, #[.tmp 9], #[23]⟩, _, _, _, none⟩) (v := .int .i64 (l.length : Int)) rfl (by kernel_rfl) (by kernel_rfl) (by kernel_rfl) (fun _ _ _ h => h) (Or.inl ⟨by rfl, fun w _ => by go_simp⟩) hH ?_
    try simp only [Act.put, List.setIfInBounds_toArray, List.set_cons_succ, List.set_cons_zero]
    refine wpAnyH_take (i := 4) (oi := ⟨some 11, .load 3 (.tmp 2), _, _, _, none⟩) (v := .int .i64 (most : Int)) rfl (by kernel_rfl) (by kernel_rfl) (by kernel_rfl) (fun _ _ _ h => h) (Or.inl ⟨by rfl, fun w hS => by have c0 := hS.m; go_simp⟩) hH ?_
    try simp only [Act.put, List.setIfInBounds_toArray, List.set_cons_succ, List.set_cons_zero]
    refine wpAnyH_take (i := 5) (oi := ⟨some 12, .binOp .leq 3 (.tmp 10) (.tmp 11) 3, _, _, _, none⟩) (v := .bool false) rfl (by kernel_rfl) (by kernel_rfl) (by kernel_rfl) (fun _ _ _ h => h) (Or.inl ⟨by rfl, fun w _ => by have hle := HLE.out; go_simp⟩) hH ?_
    try simp only [Act.put, List.setIfInBounds_toArray, List.set_cons_succ, List.set_cons_zero]
    refine wpAnyH_ready (rs := [6]) (by kernel_rfl) (by simp) (AllReadyH.cons (o := ⟨some 13, .call ⟨.value (.func 117), #[.tmp 12, .const (.int .i64 2)], #[4, 32]⟩, _, _, _, none⟩) rfl (fun K hK => ?_) AllReadyH.nil)
    have HK := Lib.hid hK
    clear hK
    go_simp
    refine (must_no 2 w8).mono ?_
    rintro e w9 ⟨⟨f, hf, rfl, hf0, hf1⟩, hb9⟩
    exact ⟨rfl, .inr ⟨rfl, ⟨f, Nat.le_trans HSZ8.out hf, rfl, hf0, hf1⟩, HB8.out.b.trans (hb9.mono HSZ8.out)⟩⟩
end Go.Proofs.YtlhmmplkdjibkaaGreatDoor
/- The constructors of lists. -/
namespace Go.Proofs.YtlhmmplkdjibkaaGreatDoor
open Go.RowKit

/-- what a list's constructor answers: a field whose closures share four new blocks -/
structure ListK (N : Nat) (at_ : Value) (pt : TypeId) (most : Int) (ly : Value) (lt : TypeId) (rd : Value) (rt : TypeId) (w : World) : Prop where
  a : w.heap[N]? = some (.cells #[at_] pt (0, 0))
  m : w.heap[N + 1]? = some (.cells #[.int .i64 most] 3 (0, 0))
  l : w.heap[N + 1 + 1]? = some (.cells #[ly] lt (0, 0))
  r : w.heap[N + 1 + 1 + 1]? = some (.cells #[rd] rt (0, 0))
theorem ListK.next {N : Nat} {at_ : Value} {pt : TypeId} {most : Int} {ly : Value} {lt : TypeId} {rd : Value} {rt : TypeId} {w w' : World} (h : ListK N at_ pt most ly lt rd rt w) (hb : Below w.heap.size w w') : ListK N at_ pt most ly lt rd rt w' :=
  ⟨(hb.block _ (lit_lt h.a)).trans h.a, (hb.block _ (lit_lt h.m)).trans h.m, (hb.block _ (lit_lt h.l)).trans h.l, (hb.block _ (lit_lt h.r)).trans h.r⟩
theorem ListK.only {N c : Nat} {at_ : Value} {pt : TypeId} {most : Int} {ly : Value} {lt : TypeId} {rd : Value} {rt : TypeId} {w w' : World} (h : ListK N at_ pt most ly lt rd rt w) (ho : Only c w w') (hc : c < N ∨ N + 1 + 1 + 1 < c) : ListK N at_ pt most ly lt rd rt w' :=
  ⟨(ho.block _ (lit_lt h.a) (by omega)).trans h.a, (ho.block _ (lit_lt h.m) (by omega)).trans h.m, (ho.block _ (lit_lt h.l) (by omega)).trans h.l, (ho.block _ (lit_lt h.r) (by omega)).trans h.r⟩
theorem ListK.start (w : World) (at_ : Value) (pt : TypeId) (most : Int) (ly : Value) (lt : TypeId) (rd : Value) (rt : TypeId) : ListK w.heap.size at_ pt most ly lt rd rt ((((w.alloc (.cells #[at_] pt)).alloc (.cells #[.int .i64 most] 3)).alloc (.cells #[ly] lt)).alloc (.cells #[rd] rt)) := by
  refine ⟨lit_old _ (lit_old _ (lit_old _ (heap_alloc_new w _))), lit_old _ (lit_old _ ?_), lit_old _ ?_, ?_⟩
  · rw [show w.heap.size + 1 = (w.alloc (.cells #[at_] pt)).heap.size by simp]; exact heap_alloc_new _ _
  · rw [show w.heap.size + 1 + 1 = ((w.alloc (.cells #[at_] pt)).alloc (.cells #[.int .i64 most] 3)).heap.size by simp]; exact heap_alloc_new _ _
  · rw [show w.heap.size + 1 + 1 + 1 = (((w.alloc (.cells #[at_] pt)).alloc (.cells #[.int .i64 most] 3)).alloc (.cells #[ly] lt)).heap.size by simp]; exact heap_alloc_new _ _
abbrev listSFV (c : UInt8) (N : Nat) : FV := ⟨c, false, 141, #[ptrV N], 142, #[ptrV N, ptrV (N + 1), ptrV (N + 1 + 1)], 144, #[ptrV (N + 1), ptrV N, ptrV (N + 1 + 1 + 1)]⟩
abbrev listNFV (c : UInt8) (N : Nat) : FV := ⟨c, false, 148, #[ptrV N], 149, #[ptrV N, ptrV (N + 1), ptrV (N + 1 + 1)], 150, #[ptrV (N + 1), ptrV N, ptrV (N + 1 + 1 + 1)]⟩
abbrev listRFV (c : UInt8) (N : Nat) : FV := ⟨c, false, 154, #[ptrV N], 155, #[ptrV N, ptrV (N + 1), ptrV (N + 1 + 1)], 156, #[ptrV (N + 1), ptrV N, ptrV (N + 1 + 1 + 1)]⟩

set_option maxRecDepth 100000 in
set_option maxHeartbeats 1000000 in
theorem listS_mk (c : UInt8) (t o : Nat) (most : Int) (Fl Fr : Nat) (Cl Cr : Array Value) (w : World) :
    Calls Tryz.prog 91 #[.string ⟨#[c]⟩, .pointer (some ⟨t, o, none⟩), .int .i64 most, .func (.func Fl) #[] Cl, .func (.func Fr) #[] Cr] w fun e w' => e = .returned (listSFV c w.heap.size).val ∧ ListK w.heap.size (.pointer (some ⟨t, o, none⟩)) 108 most (.func (.func Fl) #[] Cl) 172 (.func (.func Fr) #[] Cr) 173 w' ∧ Below w.heap.size w w' := by
  have hmf : ∀ (fn : Fn) (first cap : Array Value) (w : World), (Instr.makeFunc fn first cap).run Tryz.prog w = .ok (.func fn first cap) w := fun _ _ _ _ => rfl
  have HK := Lib.hid (ListK.start w (.pointer (some ⟨t, o, none⟩)) 108 most (.func (.func Fl) #[] Cl) 172 (.func (.func Fr) #[] Cr) 173)
  have HB : Hid (Below w.heap.size w ((((w.alloc (.cells #[.pointer (some ⟨t, o, none⟩)] 108)).alloc (.cells #[.int .i64 most] 3)).alloc (.cells #[.func (.func Fl) #[] Cl] 172)).alloc (.cells #[.func (.func Fr) #[] Cr] 173))) := Lib.hid ((((by0 w _).alloc (by simp) _).alloc (by simp; omega) _).alloc (by simp; omega) _)
  have HN : Hid (w.heap.size + 1 + 1 + 1 + 1 = ((((w.alloc (.cells #[.pointer (some ⟨t, o, none⟩)] 108)).alloc (.cells #[.int .i64 most] 3)).alloc (.cells #[.func (.func Fl) #[] Cl] 172)).alloc (.cells #[.func (.func Fr) #[] Cr] 173)).heap.size) := Lib.hid (by simp)
  go_enter Tryz.func91, Tryz.ntmps91
  go_wp2
  change bodyPost _ _ _ _ _ (World.alloc _ (.cells (listSFV c w.heap.size).cells.toArray 106))
  generalize ((((w.alloc (.cells #[.pointer (some ⟨t, o, none⟩)] 108)).alloc (.cells #[.int .i64 most] 3)).alloc (.cells #[.func (.func Fl) #[] Cl] 172)).alloc (.cells #[.func (.func Fr) #[] Cr] 173)) = wa at *
  have hW1 : (wa.alloc (.cells (listSFV c w.heap.size).cells.toArray 106)).heap[w.heap.size + 1 + 1 + 1 + 1]? = some (.cells (listSFV c w.heap.size).cells.toArray 106 (0, 0)) := by
    rw [HN.out]
    exact heap_alloc_new _ _
  have hK := HK.out.next (by0 wa (.cells (listSFV c w.heap.size).cells.toArray 106))
  have hB := HB.out.alloc (by have := HN.out; omega) (.cells (listSFV c w.heap.size).cells.toArray 106)
  generalize wa.alloc (.cells (listSFV c w.heap.size).cells.toArray 106) = wf at *
  obtain ⟨z0, z1, z2, z3, z4⟩ := five hW1
  refine bodyPost_ret (v := (listSFV c w.heap.size).val) (by simp [results, Tryz.results91, go_sem, z0, z1, z2, z3, z4]) rfl ⟨rfl, hK, hB⟩

set_option maxRecDepth 100000 in
set_option maxHeartbeats 1000000 in
theorem listN_mk (c : UInt8) (t o : Nat) (most : Int) (Fl Fr : Nat) (Cl Cr : Array Value) (w : World) :
    Calls Tryz.prog 98 #[.string ⟨#[c]⟩, .pointer (some ⟨t, o, none⟩), .int .i64 most, .func (.func Fl) #[] Cl, .func (.func Fr) #[] Cr] w fun e w' => e = .returned (listNFV c w.heap.size).val ∧ ListK w.heap.size (.pointer (some ⟨t, o, none⟩)) 112 most (.func (.func Fl) #[] Cl) 176 (.func (.func Fr) #[] Cr) 177 w' ∧ Below w.heap.size w w' := by
  have hmf : ∀ (fn : Fn) (first cap : Array Value) (w : World), (Instr.makeFunc fn first cap).run Tryz.prog w = .ok (.func fn first cap) w := fun _ _ _ _ => rfl
  have HK := Lib.hid (ListK.start w (.pointer (some ⟨t, o, none⟩)) 112 most (.func (.func Fl) #[] Cl) 176 (.func (.func Fr) #[] Cr) 177)
  have HB : Hid (Below w.heap.size w ((((w.alloc (.cells #[.pointer (some ⟨t, o, none⟩)] 112)).alloc (.cells #[.int .i64 most] 3)).alloc (.cells #[.func (.func Fl) #[] Cl] 176)).alloc (.cells #[.func (.func Fr) #[] Cr] 177))) := Lib.hid ((((by0 w _).alloc (by simp) _).alloc (by simp; omega) _).alloc (by simp; omega) _)
  have HN : Hid (w.heap.size + 1 + 1 + 1 + 1 = ((((w.alloc (.cells #[.pointer (some ⟨t, o, none⟩)] 112)).alloc (.cells #[.int .i64 most] 3)).alloc (.cells #[.func (.func Fl) #[] Cl] 176)).alloc (.cells #[.func (.func Fr) #[] Cr] 177)).heap.size) := Lib.hid (by simp)
  go_enter Tryz.func98, Tryz.ntmps98
  go_wp2
  change bodyPost _ _ _ _ _ (World.alloc _ (.cells (listNFV c w.heap.size).cells.toArray 106))
  generalize ((((w.alloc (.cells #[.pointer (some ⟨t, o, none⟩)] 112)).alloc (.cells #[.int .i64 most] 3)).alloc (.cells #[.func (.func Fl) #[] Cl] 176)).alloc (.cells #[.func (.func Fr) #[] Cr] 177)) = wa at *
  have hW1 : (wa.alloc (.cells (listNFV c w.heap.size).cells.toArray 106)).heap[w.heap.size + 1 + 1 + 1 + 1]? = some (.cells (listNFV c w.heap.size).cells.toArray 106 (0, 0)) := by
    rw [HN.out]
    exact heap_alloc_new _ _
  have hK := HK.out.next (by0 wa (.cells (listNFV c w.heap.size).cells.toArray 106))
  have hB := HB.out.alloc (by have := HN.out; omega) (.cells (listNFV c w.heap.size).cells.toArray 106)
  generalize wa.alloc (.cells (listNFV c w.heap.size).cells.toArray 106) = wf at *
  obtain ⟨z0, z1, z2, z3, z4⟩ := five hW1
  refine bodyPost_ret (v := (listNFV c w.heap.size).val) (by simp [results, Tryz.results98, go_sem, z0, z1, z2, z3, z4]) rfl ⟨rfl, hK, hB⟩

set_option maxRecDepth 100000 in
set_option maxHeartbeats 1000000 in
theorem listR_mk (c : UInt8) (t o : Nat) (most : Int) (Fl Fr : Nat) (Cl Cr : Array Value) (w : World) :
    Calls Tryz.prog 103 #[.string ⟨#[c]⟩, .pointer (some ⟨t, o, none⟩), .int .i64 most, .func (.func Fl) #[] Cl, .func (.func Fr) #[] Cr] w fun e w' => e = .returned (listRFV c w.heap.size).val ∧ ListK w.heap.size (.pointer (some ⟨t, o, none⟩)) 114 most (.func (.func Fl) #[] Cl) 179 (.func (.func Fr) #[] Cr) 180 w' ∧ Below w.heap.size w w' := by
  have hmf : ∀ (fn : Fn) (first cap : Array Value) (w : World), (Instr.makeFunc fn first cap).run Tryz.prog w = .ok (.func fn first cap) w := fun _ _ _ _ => rfl
  have HK := Lib.hid (ListK.start w (.pointer (some ⟨t, o, none⟩)) 114 most (.func (.func Fl) #[] Cl) 179 (.func (.func Fr) #[] Cr) 180)
  have HB : Hid (Below w.heap.size w ((((w.alloc (.cells #[.pointer (some ⟨t, o, none⟩)] 114)).alloc (.cells #[.int .i64 most] 3)).alloc (.cells #[.func (.func Fl) #[] Cl] 179)).alloc (.cells #[.func (.func Fr) #[] Cr] 180))) := Lib.hid ((((by0 w _).alloc (by simp) _).alloc (by simp; omega) _).alloc (by simp; omega) _)
  have HN : Hid (w.heap.size + 1 + 1 + 1 + 1 = ((((w.alloc (.cells #[.pointer (some ⟨t, o, none⟩)] 114)).alloc (.cells #[.int .i64 most] 3)).alloc (.cells #[.func (.func Fl) #[] Cl] 179)).alloc (.cells #[.func (.func Fr) #[] Cr] 180)).heap.size) := Lib.hid (by simp)
  go_enter Tryz.func103, Tryz.ntmps103
  go_wp2
  change bodyPost _ _ _ _ _ (World.alloc _ (.cells (listRFV c w.heap.size).cells.toArray 106))
  generalize ((((w.alloc (.cells #[.pointer (some ⟨t, o, none⟩)] 114)).alloc (.cells #[.int .i64 most] 3)).alloc (.cells #[.func (.func Fl) #[] Cl] 179)).alloc (.cells #[.func (.func Fr) #[] Cr] 180)) = wa at *
  have hW1 : (wa.alloc (.cells (listRFV c w.heap.size).cells.toArray 106)).heap[w.heap.size + 1 + 1 + 1 + 1]? = some (.cells (listRFV c w.heap.size).cells.toArray 106 (0, 0)) := by
    rw [HN.out]
    exact heap_alloc_new _ _
  have hK := HK.out.next (by0 wa (.cells (listRFV c w.heap.size).cells.toArray 106))
  have hB := HB.out.alloc (by have := HN.out; omega) (.cells (listRFV c w.heap.size).cells.toArray 106)
  generalize wa.alloc (.cells (listRFV c w.heap.size).cells.toArray 106) = wf at *
  obtain ⟨z0, z1, z2, z3, z4⟩ := five hW1
  refine bodyPost_ret (v := (listRFV c w.heap.size).val) (by simp [results, Tryz.results103, go_sem, z0, z1, z2, z3, z4]) rfl ⟨rfl, hK, hB⟩

set_option maxRecDepth 100000 in
set_option maxHeartbeats 1000000 in
theorem digests_mk (c : UInt8) (t o : Nat) (most : Int) (w : World) :
    Calls Tryz.prog 47 #[.string ⟨#[c]⟩, .pointer (some ⟨t, o, none⟩), .int .i64 most] w fun e w' => ∃ N, w.heap.size ≤ N ∧ e = .returned (listSFV c N).val ∧ ListK N (.pointer (some ⟨t, o, none⟩)) 108 most (.func (.func 92) #[] #[]) 172 (.func (.func 93) #[] #[]) 173 w' ∧ Below w.heap.size w w' := by
  have HC := Lib.hid (listS_mk c t o most 92 93 #[] #[] (w.alloc (.cells #[.string ⟨#[]⟩, .bool false, .nilFunc, .nilFunc, .nilFunc] 106)))
  have HS : Hid ((w.alloc (.cells #[.string ⟨#[]⟩, .bool false, .nilFunc, .nilFunc, .nilFunc] 106)).heap.size = w.heap.size + 1) := Lib.hid (by simp)
  have HF := Lib.hid (heap_alloc_new w (.cells #[.string ⟨#[]⟩, .bool false, .nilFunc, .nilFunc, .nilFunc] 106))
  have HB := Lib.hid (by0 w (.cells #[.string ⟨#[]⟩, .bool false, .nilFunc, .nilFunc, .nilFunc] 106))
  rw [HS.out] at HC
  go_enter Tryz.func47, Tryz.ntmps47
  go_wp2_with (go_at_call 91; refine HC.out.mono ?_; rintro e w2 ⟨rfl, hk2, hb2⟩; have hf2 := (hb2.block w.heap.size (by omega)).trans HF.out; have y0 := (lit_cell hf2 0).trans rfl; have y1 := (lit_cell hf2 1).trans rfl; have y2 := (lit_cell hf2 2).trans rfl; have y3 := (lit_cell hf2 3).trans rfl; have y4 := (lit_cell hf2 4).trans rfl; have q0 := lit_free hf2 0; have q1 := lit_free hf2 1; have q2 := lit_free hf2 2; have q3 := lit_free hf2 3; have q4 := lit_free hf2 4)
  have hW1 := set5_block (c := w.heap.size) (k := 0) (f := listSFV c (w.heap.size + 1)) hf2
  have hK := hk2.only (set5_only w2 w.heap.size 0 (listSFV c (w.heap.size + 1))) (.inl (by omega))
  have hb2' : Below w.heap.size w w2 := HB.out.trans (hb2.mono (by omega))
  have hB : Below w.heap.size w (set5 w2 w.heap.size 0 (listSFV c (w.heap.size + 1))) := hb2'.trans ((set5_only w2 w.heap.size 0 (listSFV c (w.heap.size + 1))).below (by omega) hb2'.size)
  change bodyPost _ _ _ _ _ (set5 w2 w.heap.size 0 (listSFV c (w.heap.size + 1)))
  generalize set5 w2 w.heap.size 0 (listSFV c (w.heap.size + 1)) = wf at *
  obtain ⟨z0, z1, z2, z3, z4⟩ := five (f := listSFV c (w.heap.size + 1)) hW1
  refine bodyPost_ret (v := (listSFV c (w.heap.size + 1)).val) (by simp [results, Tryz.results47, go_sem, z0, z1, z2, z3, z4]) rfl ⟨w.heap.size + 1, by omega, rfl, hK, hB⟩

set_option maxRecDepth 100000 in
set_option maxHeartbeats 1000000 in
theorem numbers_mk (c : UInt8) (t o : Nat) (most : Int) (w : World) :
    Calls Tryz.prog 49 #[.string ⟨#[c]⟩, .pointer (some ⟨t, o, none⟩), .int .i64 most] w fun e w' => ∃ N, w.heap.size ≤ N ∧ e = .returned (listNFV c N).val ∧ ListK N (.pointer (some ⟨t, o, none⟩)) 112 most (.func (.func 99) #[] #[]) 176 (.func (.func 100) #[] #[]) 177 w' ∧ Below w.heap.size w w' := by
  have HC := Lib.hid (listN_mk c t o most 99 100 #[] #[] (w.alloc (.cells #[.string ⟨#[]⟩, .bool false, .nilFunc, .nilFunc, .nilFunc] 106)))
  have HS : Hid ((w.alloc (.cells #[.string ⟨#[]⟩, .bool false, .nilFunc, .nilFunc, .nilFunc] 106)).heap.size = w.heap.size + 1) := Lib.hid (by simp)
  have HF := Lib.hid (heap_alloc_new w (.cells #[.string ⟨#[]⟩, .bool false, .nilFunc, .nilFunc, .nilFunc] 106))
  have HB := Lib.hid (by0 w (.cells #[.string ⟨#[]⟩, .bool false, .nilFunc, .nilFunc, .nilFunc] 106))
  rw [HS.out] at HC
  go_enter Tryz.func49, Tryz.ntmps49
  go_wp2_with (go_at_call 98; refine HC.out.mono ?_; rintro e w2 ⟨rfl, hk2, hb2⟩; have hf2 := (hb2.block w.heap.size (by omega)).trans HF.out; have y0 := (lit_cell hf2 0).trans rfl; have y1 := (lit_cell hf2 1).trans rfl; have y2 := (lit_cell hf2 2).trans rfl; have y3 := (lit_cell hf2 3).trans rfl; have y4 := (lit_cell hf2 4).trans rfl; have q0 := lit_free hf2 0; have q1 := lit_free hf2 1; have q2 := lit_free hf2 2; have q3 := lit_free hf2 3; have q4 := lit_free hf2 4)
  have hW1 := set5_block (c := w.heap.size) (k := 0) (f := listNFV c (w.heap.size + 1)) hf2
  have hK := hk2.only (set5_only w2 w.heap.size 0 (listNFV c (w.heap.size + 1))) (.inl (by omega))
  have hb2' : Below w.heap.size w w2 := HB.out.trans (hb2.mono (by omega))
  have hB : Below w.heap.size w (set5 w2 w.heap.size 0 (listNFV c (w.heap.size + 1))) := hb2'.trans ((set5_only w2 w.heap.size 0 (listNFV c (w.heap.size + 1))).below (by omega) hb2'.size)
  change bodyPost _ _ _ _ _ (set5 w2 w.heap.size 0 (listNFV c (w.heap.size + 1)))
  generalize set5 w2 w.heap.size 0 (listNFV c (w.heap.size + 1)) = wf at *
  obtain ⟨z0, z1, z2, z3, z4⟩ := five (f := listNFV c (w.heap.size + 1)) hW1
  refine bodyPost_ret (v := (listNFV c (w.heap.size + 1)).val) (by simp [results, Tryz.results49, go_sem, z0, z1, z2, z3, z4]) rfl ⟨w.heap.size + 1, by omega, rfl, hK, hB⟩

set_option maxRecDepth 100000 in
set_option maxHeartbeats 1000000 in
theorem things_mk (c : UInt8) (t o : Nat) (most : Int) (Fo : Nat) (w : World) :
    Calls Tryz.prog 50 #[.string ⟨#[c]⟩, .pointer (some ⟨t, o, none⟩), .int .i64 most, .func (.func Fo) #[] #[]] w fun e w' => ∃ N kk, w.heap.size ≤ kk ∧ w.heap.size ≤ N ∧ e = .returned (listRFV c N).val ∧ w'.heap[kk]? = some (.cells #[.func (.func Fo) #[] #[]] 115 (0, 0)) ∧ ListK N (.pointer (some ⟨t, o, none⟩)) 114 most (.func (.func 101) #[] #[ptrV kk]) 179 (.func (.func 102) #[] #[ptrV kk]) 180 w' ∧ Below w.heap.size w w' := by
  have hmf : ∀ (fn : Fn) (first cap : Array Value) (w : World), (Instr.makeFunc fn first cap).run Tryz.prog w = .ok (.func fn first cap) w := fun _ _ _ _ => rfl
  have HC := Lib.hid (listR_mk c t o most 101 102 #[ptrV w.heap.size] #[ptrV w.heap.size] ((w.alloc (.cells #[.func (.func Fo) #[] #[]] 115)).alloc (.cells #[.string ⟨#[]⟩, .bool false, .nilFunc, .nilFunc, .nilFunc] 106)))
  have HS : Hid (((w.alloc (.cells #[.func (.func Fo) #[] #[]] 115)).alloc (.cells #[.string ⟨#[]⟩, .bool false, .nilFunc, .nilFunc, .nilFunc] 106)).heap.size = w.heap.size + 1 + 1) := Lib.hid (by simp)
  have HK0 : Hid (((w.alloc (.cells #[.func (.func Fo) #[] #[]] 115)).alloc (.cells #[.string ⟨#[]⟩, .bool false, .nilFunc, .nilFunc, .nilFunc] 106)).heap[w.heap.size]? = some (.cells #[.func (.func Fo) #[] #[]] 115 (0, 0))) := Lib.hid (lit_old _ (heap_alloc_new w _))
  have HF : Hid (((w.alloc (.cells #[.func (.func Fo) #[] #[]] 115)).alloc (.cells #[.string ⟨#[]⟩, .bool false, .nilFunc, .nilFunc, .nilFunc] 106)).heap[w.heap.size + 1]? = some (.cells #[.string ⟨#[]⟩, .bool false, .nilFunc, .nilFunc, .nilFunc] 106 (0, 0))) := Lib.hid (by
    rw [show w.heap.size + 1 = (w.alloc (.cells #[.func (.func Fo) #[] #[]] 115)).heap.size by simp]
    exact heap_alloc_new _ _)
  have HB : Hid (Below w.heap.size w ((w.alloc (.cells #[.func (.func Fo) #[] #[]] 115)).alloc (.cells #[.string ⟨#[]⟩, .bool false, .nilFunc, .nilFunc, .nilFunc] 106))) := Lib.hid ((by0 w _).alloc (by simp) _)
  rw [HS.out] at HC
  go_enter Tryz.func50, Tryz.ntmps50
  go_wp2_with (go_at_call 103; refine HC.out.mono ?_; rintro e w2 ⟨rfl, hk2, hb2⟩; have hf2 := (hb2.block (w.heap.size + 1) (by omega)).trans HF.out; have hk02 := (hb2.block w.heap.size (by omega)).trans HK0.out; have y0 := (lit_cell hf2 0).trans rfl; have y1 := (lit_cell hf2 1).trans rfl; have y2 := (lit_cell hf2 2).trans rfl; have y3 := (lit_cell hf2 3).trans rfl; have y4 := (lit_cell hf2 4).trans rfl; have q0 := lit_free hf2 0; have q1 := lit_free hf2 1; have q2 := lit_free hf2 2; have q3 := lit_free hf2 3; have q4 := lit_free hf2 4)
  have hW1 := set5_block (c := w.heap.size + 1) (k := 0) (f := listRFV c (w.heap.size + 1 + 1)) hf2
  have hK := hk2.only (set5_only w2 (w.heap.size + 1) 0 (listRFV c (w.heap.size + 1 + 1))) (.inl (by omega))
  have hk0 := ((set5_only w2 (w.heap.size + 1) 0 (listRFV c (w.heap.size + 1 + 1))).block w.heap.size (lit_lt hk02) (by omega)).trans hk02
  have hb2' : Below w.heap.size w w2 := HB.out.trans (hb2.mono (by omega))
  have hB : Below w.heap.size w (set5 w2 (w.heap.size + 1) 0 (listRFV c (w.heap.size + 1 + 1))) := hb2'.trans ((set5_only w2 (w.heap.size + 1) 0 (listRFV c (w.heap.size + 1 + 1))).below (by omega) hb2'.size)
  change bodyPost _ _ _ _ _ (set5 w2 (w.heap.size + 1) 0 (listRFV c (w.heap.size + 1 + 1)))
  generalize set5 w2 (w.heap.size + 1) 0 (listRFV c (w.heap.size + 1 + 1)) = wf at *
  obtain ⟨z0, z1, z2, z3, z4⟩ := five (f := listRFV c (w.heap.size + 1 + 1)) hW1
  refine bodyPost_ret (v := (listRFV c (w.heap.size + 1 + 1)).val) (by simp [results, Tryz.results50, go_sem, z0, z1, z2, z3, z4]) rfl ⟨w.heap.size + 1 + 1, w.heap.size, Nat.le_refl _, by omega, rfl, hk0, hK, hB⟩
end Go.Proofs.YtlhmmplkdjibkaaGreatDoor
