/- Lists as fields that are read; a thing as a field that is read. -/
import Derived.Test.YtlhmmplkdjibkaaGreatDoorJ14
import Derived.Shelf.Strings.Builder1
import Derived.Shelf.Strings.Builder2
import Derived.Shelf.Strings.BuilderF
import Derived.Shelf.Strings.Prefix
import Derived.Shelf.Bits.Mul64
import Derived.Shelf.Strings.Repeat
import Derived.Test.YtlhmmplkdjibkaaGreatDoorProg
namespace Go.Proofs.YtlhmmplkdjibkaaGreatDoor
open Go.RowKit

theorem erd_dig (rb : Nat) (S : (List UInt8)) (a : Nat) (w : World) (h : RdS rb S a w) : Calls Tryz.prog 93 #[.agg #[.pointer (some ⟨rb, 0, none⟩)]] w (ERdS rb S a w (digG (S.drop a) a)) := by
  obtain ⟨P, hP⟩ : ∃ P, takeP (S.drop a) 10240 1 = P := ⟨_, rfl⟩
  obtain ⟨hT, _, hle⟩ := took4 S a 1 h.a P hP
  rw [digG, hT]
  by_cases hc : P.c = 0
  · rw [if_pos hc]
    by_cases hl : P.t.length = 32
    · simp only [show digB P.t = true by simp [digB, hl], if_true]
      refine (rdigest_ok rb S a P w h hP hc hl).mono ?_
      rintro e w' ⟨h1, h2, h3⟩
      exact ⟨h1, h2, hle, h3⟩
    · simp only [show digB P.t = false by simp [digB, hl], Bool.false_eq_true, if_false]
      refine (rdigest_len rb S a P w h hP hc hl).mono ?_
      rintro e w' ⟨h1, h2⟩
      exact ⟨by decide, h1, h2⟩
  · rw [if_neg hc]
    refine (rdigest_bad rb S a P w h hP hc).mono ?_
    rintro e w' ⟨h1, h2⟩
    exact ⟨hc, h1, h2⟩
theorem erd_num (rb : Nat) (S : (List UInt8)) (a : Nat) (w : World) (h : RdS rb S a w) : Calls Tryz.prog 100 #[.agg #[.pointer (some ⟨rb, 0, none⟩)]] w (ERdN rb S a w (anyG (S.drop a) a)) := by
  obtain ⟨P, hP⟩ : ∃ P, takeP (S.drop a) 10240 0 = P := ⟨_, rfl⟩
  obtain ⟨hT, _, hle⟩ := took4 S a 0 h.a P hP
  rw [anyG, hT]
  by_cases hc : P.c = 0
  · rw [if_pos hc]
    refine (rnumber_ok rb S a P w h hP hc).mono ?_
    rintro e w' ⟨h1, h2, h3⟩
    exact ⟨h1, h2, hle, h3⟩
  · rw [if_neg hc]
    refine (rnumber_bad rb S a P w h hP hc).mono ?_
    rintro e w' ⟨h1, h2⟩
    exact ⟨hc, h1, h2⟩
theorem lst_some {α : Type} (l : List α) : (lst l).isSome = decide (0 < l.length) := by cases l <;> simp [lst]
theorem lst_none {α : Type} {l : List α} (h : lst l = none) : l = [] := by
  cases l with
  | nil => rfl
  | cons x l => cases h
set_option maxRecDepth 100000 in
theorem read_strs {ρ : Type} {w0 : World} {rb t : Nat} {S : (List UInt8)} {Rp : ρ → World → Prop} {lo N o most : Nat} {T : TypeId} {c : UInt8} {of : ρ → List (List UInt8)} {set : ρ → List (List UInt8) → ρ} (hm : most ≤ 10240) (hk : NewS lo N t o most w0) (hlo : rb < lo ∧ t < lo) (hrt : t ≠ rb) (hS : S.length ≤ 1000000) (hG : 4 ≤ rb ∧ 4 ≤ t)
    (hL : ListL 9 1 RelS rb t o T Rp of set) (hz : ∀ p, of p = [] → set p [] = p) : ReadF w0 rb t S Rp ⟨listSFV c N, listFld c most hm digC of set, lrd most digG⟩ where
  key := rfl
  tE := fun _ _ => by kernel_rfl
  rE := fun _ _ => by kernel_rfl
  get left a := by
    refine (listG_lrd most digG left a).trans ?_
    dsimp only
    cases lrd most digG left a with
    | error f => rfl
    | ok q =>
      obtain ⟨vo, k⟩ := q
      cases vo <;> rfl
  there w p hd hp := by
    obtain ⟨cs, ao, cp, h1, h2, _⟩ := hL p w hp
    have e : ((listFld c most hm digC of set).view p).isSome = decide (0 < (of p).length) := lst_some (of p)
    rw [e]
    exact listS1_any N t o (of p).length cp ao w (kCell ((hd.block N (lit_lt hk.2.a) (by have := hk.1; omega) (by have := hk.1; omega)).trans hk.2.a)) ((lit_cell h1 o).trans h2)
  read w p a hd hg hp hv hr ha := by
    obtain ⟨cs, ao, cp, h1, h2, h3, h4⟩ := hL p w hp
    have hz0 : of p = [] := lst_none hv
    obtain ⟨rfl, rfl⟩ := h3 hz0
    rw [hz0] at h2
    have hN := hk.1
    have hb := fun k (h : N ≤ k) (hk0 : k < w0.heap.size) => hd.block k hk0 (by omega) (by omega)
    refine (listS3_any N (N + 1) (N + 1 + 1 + 1) t o rb 93 most #[] T cs digG S a w (fun _ _ => by kernel_rfl) ⟨hr, hg, hS, ha⟩ (kCell ((hb N (by omega) (lit_lt hk.2.a)).trans hk.2.a)) (kCell ((hb (N + 1) (by omega) (lit_lt hk.2.m)).trans hk.2.m)) (kCell ((hb (N + 1 + 1 + 1) (by omega) (lit_lt hk.2.r)).trans hk.2.r)) h1 h2 (by omega) hG hm (fun a1 w1 _ h => erd_dig rb S a1 w1 h)).mono ?_
    intro e w' hres
    show Read rb t S Rp a w.heap.size w (RW.step ⟨listSFV c N, listFld c most hm digC of set, lrd most digG⟩ p (S.drop a) a) e w'
    unfold RW.step lrd
    dsimp only
    cases hl : lraw most digG (S.drop a) a with
    | error f =>
      obtain ⟨c1, b1⟩ := f
      rw [hl] at hres
      obtain ⟨k1, k2, k3, l, v, xs, k4, k5, k6⟩ := hres
      exact ⟨k1, k2, k3, _, h4 l v xs w' k3 k4 k5 k6⟩
    | ok q =>
      obtain ⟨l, k⟩ := q
      rw [hl] at hres
      obtain ⟨k1, ⟨v, xs, k2, k3, k4⟩, k5, k6, k7⟩ := hres
      have hR := h4 l v xs w' k7 k2 k3 k4
      cases l with
      | nil =>
        rw [hz p hz0] at hR
        exact ⟨k1, hR, k5, k6, k7⟩
      | cons x l => exact ⟨k1, hR, k5, k6, k7⟩
set_option maxRecDepth 100000 in
theorem read_nums {ρ : Type} {w0 : World} {rb t : Nat} {S : (List UInt8)} {Rp : ρ → World → Prop} {lo N o most : Nat} {T : TypeId} {c : UInt8} {of : ρ → List Nat} {set : ρ → List Nat → ρ} (hm : most ≤ 10240) (hk : NewN lo N t o most w0) (hlo : rb < lo ∧ t < lo) (hrt : t ≠ rb) (hS : S.length ≤ 1000000) (hG : 4 ≤ rb ∧ 4 ≤ t)
    (hL : ListL 22 1 RelN rb t o T Rp of set) (hz : ∀ p, of p = [] → set p [] = p) : ReadF w0 rb t S Rp ⟨listNFV c N, listFld c most hm anyC of set, lrd most anyG⟩ where
  key := rfl
  tE := fun _ _ => by kernel_rfl
  rE := fun _ _ => by kernel_rfl
  get left a := by
    refine (listG_lrd most anyG left a).trans ?_
    dsimp only
    cases lrd most anyG left a with
    | error f => rfl
    | ok q =>
      obtain ⟨vo, k⟩ := q
      cases vo <;> rfl
  there w p hd hp := by
    obtain ⟨cs, ao, cp, h1, h2, _⟩ := hL p w hp
    have e : ((listFld c most hm anyC of set).view p).isSome = decide (0 < (of p).length) := lst_some (of p)
    rw [e]
    exact listN1_any N t o (of p).length cp ao w (kCell ((hd.block N (lit_lt hk.2.a) (by have := hk.1; omega) (by have := hk.1; omega)).trans hk.2.a)) ((lit_cell h1 o).trans h2)
  read w p a hd hg hp hv hr ha := by
    obtain ⟨cs, ao, cp, h1, h2, h3, h4⟩ := hL p w hp
    have hz0 : of p = [] := lst_none hv
    obtain ⟨rfl, rfl⟩ := h3 hz0
    rw [hz0] at h2
    have hN := hk.1
    have hb := fun k (h : N ≤ k) (hk0 : k < w0.heap.size) => hd.block k hk0 (by omega) (by omega)
    refine (listN3_any N (N + 1) (N + 1 + 1 + 1) t o rb 100 most #[] T cs anyG S a w (fun _ _ => by kernel_rfl) ⟨hr, hg, hS, ha⟩ (kCell ((hb N (by omega) (lit_lt hk.2.a)).trans hk.2.a)) (kCell ((hb (N + 1) (by omega) (lit_lt hk.2.m)).trans hk.2.m)) (kCell ((hb (N + 1 + 1 + 1) (by omega) (lit_lt hk.2.r)).trans hk.2.r)) h1 h2 (by omega) hG hm (fun a1 w1 _ h => erd_num rb S a1 w1 h)).mono ?_
    intro e w' hres
    show Read rb t S Rp a w.heap.size w (RW.step ⟨listNFV c N, listFld c most hm anyC of set, lrd most anyG⟩ p (S.drop a) a) e w'
    unfold RW.step lrd
    dsimp only
    cases hl : lraw most anyG (S.drop a) a with
    | error f =>
      obtain ⟨c1, b1⟩ := f
      rw [hl] at hres
      obtain ⟨k1, k2, k3, l, v, xs, k4, k5, k6⟩ := hres
      exact ⟨k1, k2, k3, _, h4 l v xs w' k3 k4 k5 k6⟩
    | ok q =>
      obtain ⟨l, k⟩ := q
      rw [hl] at hres
      obtain ⟨k1, ⟨v, xs, k2, k3, k4⟩, k5, k6, k7⟩ := hres
      have hR := h4 l v xs w' k7 k2 k3 k4
      cases l with
      | nil =>
        rw [hz p hz0] at hR
        exact ⟨k1, hR, k5, k6, k7⟩
      | cons x l => exact ⟨k1, hR, k5, k6, k7⟩

set_option maxRecDepth 100000 in
theorem thing3_any {σ : Type} (k rb fb cp n : Nat) (S : (List UInt8)) (Rp : σ → World → Prop) (a lo t : Nat) (res : Res σ) (w : World) (hk : w.cell? ⟨k, 0, none⟩ = some (.slice (some ⟨fb, 0, none⟩) n cp)) (hlo : lo ≤ w.heap.size)
    (hrow : ∀ w1, Below w.heap.size w w1 → Calls Tryz.prog 60 #[.agg #[.pointer (some ⟨rb, 0, none⟩)], .slice (some ⟨fb, 0, none⟩) n cp] w1 (Read rb t S Rp a w1.heap.size w1 res)) :
    Calls Tryz.prog 160 #[.agg #[.pointer (some ⟨rb, 0, none⟩)], .pointer (some ⟨k, 0, none⟩)] w (Read rb t S Rp a lo w res) := by
  have hk0 : k < w.heap.size := World.block_lt_of_cell? w _ hk
  have HB := Lib.hid (by0 w (.cells #[.pointer (some ⟨rb, 0, none⟩)] 124))
  have HC := Lib.hid (hrow _ HB.out)
  have hk1 := (World.cell?_alloc_lt w (.cells #[.pointer (some ⟨rb, 0, none⟩)] 124) ⟨k, 0, none⟩ hk0).trans hk
  have HLO := Lib.hid hlo
  clear hrow hk hlo
  cases res with
  | error f =>
    obtain ⟨c, b⟩ := f
    go_enter Tryz.func160, Tryz.ntmps160
    go_wp2_with (go_at_call 60; refine HC.out.mono ?_; rintro e w1 ⟨hc, ⟨f, hf, rfl, hf0, hf1⟩, hd, hq⟩)
    exact ⟨rfl, hc, ⟨f, by have := HB.out.size; have := HLO.out; omega, rfl, hf0, hf1⟩, (Duo.below HB.out).trans hd, hq⟩
  | ok q =>
    obtain ⟨p, j⟩ := q
    go_enter Tryz.func160, Tryz.ntmps160
    go_wp2_with (go_at_call 60; refine HC.out.mono ?_; rintro e w1 ⟨rfl, h1, h2, h3, h4⟩)
    exact bodyPost_end (results_none rfl _ _ _) rfl ⟨rfl, h1, h2, h3, (Duo.below HB.out).trans h4⟩

theorem pairs_okV {ρ : Type} {fs : List (Fld ρ)} {zero : ρ} (F : Flds fs zero) {n : Nat} {left : (List UInt8)} {a k : Nat} {p : ρ} (h : pairsG n fs zero left a = .ok (p, k)) : okV fs p :=
  (pairs_back F n fs [] zero p left a k rfl (fun f hf v hv => by rw [F.none f hf] at hv; cases hv) F.none h).1
theorem mapG_congr {ρ : Type} {fs : List (Fld ρ)} {zero : ρ} (F : Flds fs zero) {fin fin' : ρ → Bool} (h : ∀ p, okV fs p → fin p = fin' p) (left : (List UInt8)) (a : Nat) : mapG fs zero fin left a = mapG fs zero fin' left a := by
  rw [mapG, mapG]
  cases takeE 4 left a with
  | error f => rfl
  | ok q =>
    obtain ⟨⟨n, t⟩, k⟩ := q
    dsimp only
    cases hp : pairsG n fs zero (left.drop k) (a + k) with
    | error f => rfl
    | ok r =>
      obtain ⟨p, k2⟩ := r
      dsimp only
      rw [h p (pairs_okV F hp)]
end Go.Proofs.YtlhmmplkdjibkaaGreatDoor
/- read[T]: what recovers. -/
namespace Go.Proofs.YtlhmmplkdjibkaaGreatDoor
open Go.RowKit Go.Extern.Stop Go.Stop Go.Extern

/-- what recovers leaves: a zero thing, the fault -/
structure Caught (xv ev f : Nat) (zs : Array Value) (T : TypeId) (w w' : World) : Prop where
  x : w'.heap[xv]? = some (.cells zs T (0, 0))
  e : w'.heap[ev]? = some (.cells #[.iface 85 (.pointer (some ⟨f, 0, none⟩))] 38 (0, 0))
  d : Duo xv ev w w'

set_option maxRecDepth 100000 in
set_option maxHeartbeats 4000000 in
theorem readPart1_catch (f xv ev : Nat) (x0 x1 x2 x3 x4 y : Value) (older : List PanicEntry) (w : World) (hg : GlobE w) (hf : f < w.heap.size) (hne : xv ≠ ev) (hx : w.heap[xv]? = some (.cells #[x0, x1, x2, x3, x4] 55 (0, 0))) (he : w.heap[ev]? = some (.cells #[y] 38 (0, 0))) :
    CallsD Tryz.prog 138 #[.pointer (some ⟨xv, 0, none⟩), .pointer (some ⟨ev, 0, none⟩)] (.panicking ({ v := .iface 85 (.pointer (some ⟨f, 0, none⟩)), recovered := false } :: older)) w fun e u' w' =>
      e = .returned (.tuple #[]) ∧ u' = .panicking ({ v := .iface 85 (.pointer (some ⟨f, 0, none⟩)), recovered := true } :: older) ∧ Caught xv ev f #[.string ⟨#[]⟩, .int .u64 0, .int .u64 0, .int .u64 0, .int .u64 0] 55 w w' := by
  have hta := to_error
  have hxl := lit_lt hx
  have hel := lit_lt he
  have hN : (w.alloc (.cells #[.string ⟨#[]⟩, .int .u64 0, .int .u64 0, .int .u64 0, .int .u64 0] 55)).drew.heap[w.heap.size]? = some (.cells #[.string ⟨#[]⟩, .int .u64 0, .int .u64 0, .int .u64 0, .int .u64 0] 55 (0, 0)) := heap_alloc_new w (.cells #[.string ⟨#[]⟩, .int .u64 0, .int .u64 0, .int .u64 0, .int .u64 0] 55)
  have HB := Lib.hid ((by0 w (.cells #[.string ⟨#[]⟩, .int .u64 0, .int .u64 0, .int .u64 0, .int .u64 0] 55)).drew)
  have HF := Lib.hid (faultOf_any f _ (hg.next HB.out) (by show f < (w.alloc _).heap.size; rw [World.size_alloc]; omega))
  have HX := Lib.hid ((HB.out.block xv hxl).trans hx)
  have HE := Lib.hid ((HB.out.block ev hel).trans he)
  have HL := Lib.hid (And.intro hxl hel)
  clear hg hx he
  refine callsD_of_wpS Tryz.func138 rfl fun c₀ cs hu => ?_
  simp only [Tryz.ntmps138, List.size_toArray, List.length_cons, List.length_nil, Nat.reduceAdd, Nat.reduceSub, Array.replicate_succ, Array.replicate_zero, List.push_toArray, List.append_toArray, List.nil_append, List.cons_append]
  apply wpS_seq
  apply wpS_region
  simp [wpOpsS, go_sem, recoverD, hu, Exit.thenS, hta]
  refine wpS_of_wp ?_
  go_upto_region 3 with fail
  refine wp_region_held_drew (S := fun w' => w'.heap[w.heap.size]? = some (.cells #[.string ⟨#[]⟩, .int .u64 0, .int .u64 0, .int .u64 0, .int .u64 0] 55 (0, 0))) (by kernel_rfl) hN (fun hH => ?_)
  generalize (w.alloc (.cells #[.string ⟨#[]⟩, .int .u64 0, .int .u64 0, .int .u64 0, .int .u64 0] 55)).drew = w8 at *
  refine wpAnyH_take (i := 0) (oi := ⟨some 11, .load 55 (.tmp 4), _, _, _, none⟩) (v := .agg #[.string ⟨#[]⟩, .int .u64 0, .int .u64 0, .int .u64 0, .int .u64 0]) rfl (by kernel_rfl) (by kernel_rfl) (by kernel_rfl) (fun _ _ _ h => h) (Or.inl ⟨by rfl, fun w1 hS => by have c0 := (lit_cell hS 0).trans rfl; have c1 := (lit_cell hS 1).trans rfl; have c2 := (lit_cell hS 2).trans rfl; have c3 := (lit_cell hS 3).trans rfl; have c4 := (lit_cell hS 4).trans rfl; go_simp⟩) hH ?_
  try simp only [Act.put, List.setIfInBounds_toArray, List.set_cons_succ, List.set_cons_zero]
  refine wpAnyH_take (i := 1) (oi := ⟨some 12, .move (.tmp 2), _, _, _, none⟩) (v := .iface 85 (.pointer (some ⟨f, 0, none⟩))) rfl (by kernel_rfl) (by kernel_rfl) (by kernel_rfl) (fun _ _ _ h => h) (Or.inl ⟨by rfl, fun _ _ => rfl⟩) hH ?_
  try simp only [Act.put, List.setIfInBounds_toArray, List.set_cons_succ, List.set_cons_zero]
  refine wpAnyH_ready (rs := [2]) (by kernel_rfl) (by simp) (AllReadyH.cons (o := ⟨some 13, .call ⟨.value (.func 43), #[.tmp 12], #[38]⟩, _, _, _, none⟩) rfl (fun K hK => ?_) AllReadyH.nil)
  have HK := Lib.hid hK
  clear hK
  go_simp
  refine HF.out.mono ?_
  rintro e w9 ⟨rfl, hb9⟩
  have hS9 := (hb9.block w.heap.size (lit_lt hH)).trans hH
  have HX9 := (hb9.block xv (lit_lt HX.out)).trans HX.out
  have HE9 := (hb9.block ev (lit_lt HE.out)).trans HE.out
  refine HK.out.out _ _ hS9 (fun _ => ?_)
  clear HK K
  try simp only [Act.put, List.setIfInBounds_toArray, List.set_cons_succ, List.set_cons_zero]
  refine wpAnyH_take (i := 3) (oi := ⟨some 14, .makeInterface 85 (.tmp 13), _, _, _, none⟩) (v := .iface 85 (.pointer (some ⟨f, 0, none⟩))) rfl (by kernel_rfl) (by kernel_rfl) (by kernel_rfl) (fun _ _ _ h => h) (Or.inl ⟨by rfl, fun _ _ => by first | rfl | go_simp⟩) hS9 ?_
  try simp only [Act.put, List.setIfInBounds_toArray, List.set_cons_succ, List.set_cons_zero]
  have p0 := (lit_cell HX9 0).trans rfl
  have q0 := lit_free HX9 0
  have p1 := (lit_cell HX9 1).trans rfl
  have q1 := lit_free HX9 1
  have p2 := (lit_cell HX9 2).trans rfl
  have q2 := lit_free HX9 2
  have p3 := (lit_cell HX9 3).trans rfl
  have q3 := lit_free HX9 3
  have p4 := (lit_cell HX9 4).trans rfl
  have q4 := lit_free HX9 4
  refine wpAnyH_ready (rs := [4]) (by kernel_rfl) (by simp) (AllReadyH.cons (o := ⟨none, .store 55 (.tmp 0) (.tmp 11), _, _, _, none⟩) rfl (fun K hK => ?_) AllReadyH.nil)
  have hx2 := lit_set (k := 4) (.int .u64 0) (lit_set (k := 3) (.int .u64 0) (lit_set (k := 2) (.int .u64 0) (lit_set (k := 1) (.int .u64 0) (lit_set (k := 0) (.string ⟨#[]⟩) (HX9)))))
  have ho2 : Only xv w9 ((((((w9).setCell ⟨xv, 0, none⟩ (.string ⟨#[]⟩)).setCell ⟨xv, 1, none⟩ (.int .u64 0)).setCell ⟨xv, 2, none⟩ (.int .u64 0)).setCell ⟨xv, 3, none⟩ (.int .u64 0)).setCell ⟨xv, 4, none⟩ (.int .u64 0)) := (((((Only.refl xv w9).trans (Only.set xv 0 (.string ⟨#[]⟩) (w9))).trans (Only.set xv 1 (.int .u64 0) ((w9).setCell ⟨xv, 0, none⟩ (.string ⟨#[]⟩)))).trans (Only.set xv 2 (.int .u64 0) (((w9).setCell ⟨xv, 0, none⟩ (.string ⟨#[]⟩)).setCell ⟨xv, 1, none⟩ (.int .u64 0)))).trans (Only.set xv 3 (.int .u64 0) ((((w9).setCell ⟨xv, 0, none⟩ (.string ⟨#[]⟩)).setCell ⟨xv, 1, none⟩ (.int .u64 0)).setCell ⟨xv, 2, none⟩ (.int .u64 0)))).trans (Only.set xv 4 (.int .u64 0) (((((w9).setCell ⟨xv, 0, none⟩ (.string ⟨#[]⟩)).setCell ⟨xv, 1, none⟩ (.int .u64 0)).setCell ⟨xv, 2, none⟩ (.int .u64 0)).setCell ⟨xv, 3, none⟩ (.int .u64 0)))
  go_simp
  change K _ ((((((w9).setCell ⟨xv, 0, none⟩ (.string ⟨#[]⟩)).setCell ⟨xv, 1, none⟩ (.int .u64 0)).setCell ⟨xv, 2, none⟩ (.int .u64 0)).setCell ⟨xv, 3, none⟩ (.int .u64 0)).setCell ⟨xv, 4, none⟩ (.int .u64 0))
  generalize (((((w9).setCell ⟨xv, 0, none⟩ (.string ⟨#[]⟩)).setCell ⟨xv, 1, none⟩ (.int .u64 0)).setCell ⟨xv, 2, none⟩ (.int .u64 0)).setCell ⟨xv, 3, none⟩ (.int .u64 0)).setCell ⟨xv, 4, none⟩ (.int .u64 0) = w10 at *
  have hne2 : xv ≠ w.heap.size := by have := HL.out; omega
  have hS10 := (ho2.block w.heap.size (lit_lt hS9) (by omega)).trans hS9
  have HE10 := (ho2.block ev (lit_lt HE9) (by omega)).trans HE9
  refine hK.out _ _ hS10 (fun _ => ?_)
  clear hK K
  try simp only [Act.put, List.setIfInBounds_toArray, List.set_cons_succ, List.set_cons_zero]
  have y0 := (lit_cell HE10 0).trans rfl
  have y1 := lit_free HE10 0
  refine wpAnyH_ready (rs := [5]) (by kernel_rfl) (by simp) (AllReadyH.cons (o := ⟨none, .store 38 (.tmp 1) (.tmp 14), _, _, _, none⟩) rfl (fun K hK => ?_) AllReadyH.nil)
  go_simp
  have hS11 : (w10.setCell ⟨ev, 0, none⟩ (.iface 85 (.pointer (some ⟨f, 0, none⟩)))).heap[w.heap.size]? = some (.cells #[.string ⟨#[]⟩, .int .u64 0, .int .u64 0, .int .u64 0, .int .u64 0] 55 (0, 0)) := (lit_far _ (by have := HL.out; omega)).trans hS10
  refine hK.out _ _ hS11 (fun _ => ?_)
  clear hK K
  try simp only [Act.put, List.setIfInBounds_toArray, List.set_cons_succ, List.set_cons_zero]
  refine wpAnyH_done (by kernel_rfl) ?_ _
  have HC : Caught xv ev f #[.string ⟨#[]⟩, .int .u64 0, .int .u64 0, .int .u64 0, .int .u64 0] 55 w (w10.setCell ⟨ev, 0, none⟩ (.iface 85 (.pointer (some ⟨f, 0, none⟩)))) := ⟨(lit_far _ hne).trans (hx2.trans (by simp)), (lit_set _ HE10).trans rfl, ((((Duo.below HB.out).trans (Duo.below hb9)).trans (Duo.only ho2)).trans (Duo.only2 (Only.set ev 0 _ w10)))⟩
  have HCH := Lib.hid HC
  clear HC
  generalize w10.setCell ⟨ev, 0, none⟩ (.iface 85 (.pointer (some ⟨f, 0, none⟩))) = w11 at *
  go_wp2
  exact ⟨rfl, _, rfl, _, results_none rfl _ _ _, rfl, rfl, HCH.out⟩
set_option maxRecDepth 100000 in
set_option maxHeartbeats 4000000 in
theorem readPart1_idle (xv ev : Nat) (w : World) :
    CallsD Tryz.prog 138 #[.pointer (some ⟨xv, 0, none⟩), .pointer (some ⟨ev, 0, none⟩)] .returning w fun e u' w' => e = .returned (.tuple #[]) ∧ u' = .returning ∧ w' = w := by
  have hta : ∀ w, (Instr.typeAssert .nilIface 20 38 true).run Tryz.prog w = .ok (.tuple #[.nilIface, .bool false]) w := fun w => by kernel_rfl
  refine callsD_of_wpS Tryz.func138 rfl fun c₀ cs hu => ?_
  simp only [Tryz.ntmps138, List.size_toArray, List.length_cons, List.length_nil, Nat.reduceAdd, Nat.reduceSub, Array.replicate_succ, Array.replicate_zero, List.push_toArray, List.append_toArray, List.nil_append, List.cons_append]
  apply wpS_seq
  apply wpS_region
  simp [wpOpsS, go_sem, recoverD, hu, Exit.thenS, hta]
  refine wpS_of_wp ?_
  go_wp2
  cases c₀
  simp only at hu
  subst hu
  exact ⟨rfl, _, rfl, _, results_none rfl _ _ _, rfl, rfl, rfl⟩

set_option maxRecDepth 100000 in
set_option maxHeartbeats 4000000 in
theorem readSlot1_catch (f xv ev : Nat) (x0 x1 x2 x3 x4 y : Value) (older : List PanicEntry) (w : World) (hg : GlobE w) (hf : f < w.heap.size) (hne : xv ≠ ev) (hx : w.heap[xv]? = some (.cells #[x0, x1, x2, x3, x4] 53 (0, 0))) (he : w.heap[ev]? = some (.cells #[y] 38 (0, 0))) :
    CallsD Tryz.prog 137 #[.pointer (some ⟨xv, 0, none⟩), .pointer (some ⟨ev, 0, none⟩)] (.panicking ({ v := .iface 85 (.pointer (some ⟨f, 0, none⟩)), recovered := false } :: older)) w fun e u' w' =>
      e = .returned (.tuple #[]) ∧ u' = .panicking ({ v := .iface 85 (.pointer (some ⟨f, 0, none⟩)), recovered := true } :: older) ∧ Caught xv ev f #[.int .u64 0, .bool false, .int .u64 0, .slice none 0 0, .slice none 0 0] 53 w w' := by
  have hta := to_error
  have hxl := lit_lt hx
  have hel := lit_lt he
  have hN : (w.alloc (.cells #[.int .u64 0, .bool false, .int .u64 0, .slice none 0 0, .slice none 0 0] 53)).drew.heap[w.heap.size]? = some (.cells #[.int .u64 0, .bool false, .int .u64 0, .slice none 0 0, .slice none 0 0] 53 (0, 0)) := heap_alloc_new w (.cells #[.int .u64 0, .bool false, .int .u64 0, .slice none 0 0, .slice none 0 0] 53)
  have HB := Lib.hid ((by0 w (.cells #[.int .u64 0, .bool false, .int .u64 0, .slice none 0 0, .slice none 0 0] 53)).drew)
  have HF := Lib.hid (faultOf_any f _ (hg.next HB.out) (by show f < (w.alloc _).heap.size; rw [World.size_alloc]; omega))
  have HX := Lib.hid ((HB.out.block xv hxl).trans hx)
  have HE := Lib.hid ((HB.out.block ev hel).trans he)
  have HL := Lib.hid (And.intro hxl hel)
  clear hg hx he
  refine callsD_of_wpS Tryz.func137 rfl fun c₀ cs hu => ?_
  simp only [Tryz.ntmps137, List.size_toArray, List.length_cons, List.length_nil, Nat.reduceAdd, Nat.reduceSub, Array.replicate_succ, Array.replicate_zero, List.push_toArray, List.append_toArray, List.nil_append, List.cons_append]
  apply wpS_seq
  apply wpS_region
  simp [wpOpsS, go_sem, recoverD, hu, Exit.thenS, hta]
  refine wpS_of_wp ?_
  go_upto_region 3 with fail
  refine wp_region_held_drew (S := fun w' => w'.heap[w.heap.size]? = some (.cells #[.int .u64 0, .bool false, .int .u64 0, .slice none 0 0, .slice none 0 0] 53 (0, 0))) (by kernel_rfl) hN (fun hH => ?_)
  generalize (w.alloc (.cells #[.int .u64 0, .bool false, .int .u64 0, .slice none 0 0, .slice none 0 0] 53)).drew = w8 at *
  refine wpAnyH_take (i := 0) (oi := ⟨some 11, .load 53 (.tmp 4), _, _, _, none⟩) (v := .agg #[.int .u64 0, .bool false, .int .u64 0, .slice none 0 0, .slice none 0 0]) rfl (by kernel_rfl) (by kernel_rfl) (by kernel_rfl) (fun _ _ _ h => h) (Or.inl ⟨by rfl, fun w1 hS => by have c0 := (lit_cell hS 0).trans rfl; have c1 := (lit_cell hS 1).trans rfl; have c2 := (lit_cell hS 2).trans rfl; have c3 := (lit_cell hS 3).trans rfl; have c4 := (lit_cell hS 4).trans rfl; go_simp⟩) hH ?_
  try simp only [Act.put, List.setIfInBounds_toArray, List.set_cons_succ, List.set_cons_zero]
  refine wpAnyH_take (i := 1) (oi := ⟨some 12, .move (.tmp 2), _, _, _, none⟩) (v := .iface 85 (.pointer (some ⟨f, 0, none⟩))) rfl (by kernel_rfl) (by kernel_rfl) (by kernel_rfl) (fun _ _ _ h => h) (Or.inl ⟨by rfl, fun _ _ => rfl⟩) hH ?_
  try simp only [Act.put, List.setIfInBounds_toArray, List.set_cons_succ, List.set_cons_zero]
  refine wpAnyH_ready (rs := [2]) (by kernel_rfl) (by simp) (AllReadyH.cons (o := ⟨some 13, .call ⟨.value (.func 43), #[.tmp 12], #[38]⟩, _, _, _, none⟩) rfl (fun K hK => ?_) AllReadyH.nil)
  have HK := Lib.hid hK
  clear hK
  go_simp
  refine HF.out.mono ?_
  rintro e w9 ⟨rfl, hb9⟩
  have hS9 := (hb9.block w.heap.size (lit_lt hH)).trans hH
  have HX9 := (hb9.block xv (lit_lt HX.out)).trans HX.out
  have HE9 := (hb9.block ev (lit_lt HE.out)).trans HE.out
  refine HK.out.out _ _ hS9 (fun _ => ?_)
  clear HK K
  try simp only [Act.put, List.setIfInBounds_toArray, List.set_cons_succ, List.set_cons_zero]
  refine wpAnyH_take (i := 3) (oi := ⟨some 14, .makeInterface 85 (.tmp 13), _, _, _, none⟩) (v := .iface 85 (.pointer (some ⟨f, 0, none⟩))) rfl (by kernel_rfl) (by kernel_rfl) (by kernel_rfl) (fun _ _ _ h => h) (Or.inl ⟨by rfl, fun _ _ => by first | rfl | go_simp⟩) hS9 ?_
  try simp only [Act.put, List.setIfInBounds_toArray, List.set_cons_succ, List.set_cons_zero]
  have p0 := (lit_cell HX9 0).trans rfl
  have q0 := lit_free HX9 0
  have p1 := (lit_cell HX9 1).trans rfl
  have q1 := lit_free HX9 1
  have p2 := (lit_cell HX9 2).trans rfl
  have q2 := lit_free HX9 2
  have p3 := (lit_cell HX9 3).trans rfl
  have q3 := lit_free HX9 3
  have p4 := (lit_cell HX9 4).trans rfl
  have q4 := lit_free HX9 4
  refine wpAnyH_ready (rs := [4]) (by kernel_rfl) (by simp) (AllReadyH.cons (o := ⟨none, .store 53 (.tmp 0) (.tmp 11), _, _, _, none⟩) rfl (fun K hK => ?_) AllReadyH.nil)
  have hx2 := lit_set (k := 4) (.slice none 0 0) (lit_set (k := 3) (.slice none 0 0) (lit_set (k := 2) (.int .u64 0) (lit_set (k := 1) (.bool false) (lit_set (k := 0) (.int .u64 0) (HX9)))))
  have ho2 : Only xv w9 ((((((w9).setCell ⟨xv, 0, none⟩ (.int .u64 0)).setCell ⟨xv, 1, none⟩ (.bool false)).setCell ⟨xv, 2, none⟩ (.int .u64 0)).setCell ⟨xv, 3, none⟩ (.slice none 0 0)).setCell ⟨xv, 4, none⟩ (.slice none 0 0)) := (((((Only.refl xv w9).trans (Only.set xv 0 (.int .u64 0) (w9))).trans (Only.set xv 1 (.bool false) ((w9).setCell ⟨xv, 0, none⟩ (.int .u64 0)))).trans (Only.set xv 2 (.int .u64 0) (((w9).setCell ⟨xv, 0, none⟩ (.int .u64 0)).setCell ⟨xv, 1, none⟩ (.bool false)))).trans (Only.set xv 3 (.slice none 0 0) ((((w9).setCell ⟨xv, 0, none⟩ (.int .u64 0)).setCell ⟨xv, 1, none⟩ (.bool false)).setCell ⟨xv, 2, none⟩ (.int .u64 0)))).trans (Only.set xv 4 (.slice none 0 0) (((((w9).setCell ⟨xv, 0, none⟩ (.int .u64 0)).setCell ⟨xv, 1, none⟩ (.bool false)).setCell ⟨xv, 2, none⟩ (.int .u64 0)).setCell ⟨xv, 3, none⟩ (.slice none 0 0)))
  go_simp
  change K _ ((((((w9).setCell ⟨xv, 0, none⟩ (.int .u64 0)).setCell ⟨xv, 1, none⟩ (.bool false)).setCell ⟨xv, 2, none⟩ (.int .u64 0)).setCell ⟨xv, 3, none⟩ (.slice none 0 0)).setCell ⟨xv, 4, none⟩ (.slice none 0 0))
  generalize (((((w9).setCell ⟨xv, 0, none⟩ (.int .u64 0)).setCell ⟨xv, 1, none⟩ (.bool false)).setCell ⟨xv, 2, none⟩ (.int .u64 0)).setCell ⟨xv, 3, none⟩ (.slice none 0 0)).setCell ⟨xv, 4, none⟩ (.slice none 0 0) = w10 at *
  have hne2 : xv ≠ w.heap.size := by have := HL.out; omega
  have hS10 := (ho2.block w.heap.size (lit_lt hS9) (by omega)).trans hS9
  have HE10 := (ho2.block ev (lit_lt HE9) (by omega)).trans HE9
  refine hK.out _ _ hS10 (fun _ => ?_)
  clear hK K
  try simp only [Act.put, List.setIfInBounds_toArray, List.set_cons_succ, List.set_cons_zero]
  have y0 := (lit_cell HE10 0).trans rfl
  have y1 := lit_free HE10 0
  refine wpAnyH_ready (rs := [5]) (by kernel_rfl) (by simp) (AllReadyH.cons (o := ⟨none, .store 38 (.tmp 1) (.tmp 14), _, _, _, none⟩) rfl (fun K hK => ?_) AllReadyH.nil)
  go_simp
  have hS11 : (w10.setCell ⟨ev, 0, none⟩ (.iface 85 (.pointer (some ⟨f, 0, none⟩)))).heap[w.heap.size]? = some (.cells #[.int .u64 0, .bool false, .int .u64 0, .slice none 0 0, .slice none 0 0] 53 (0, 0)) := (lit_far _ (by have := HL.out; omega)).trans hS10
  refine hK.out _ _ hS11 (fun _ => ?_)
  clear hK K
  try simp only [Act.put, List.setIfInBounds_toArray, List.set_cons_succ, List.set_cons_zero]
  refine wpAnyH_done (by kernel_rfl) ?_ _
  have HC : Caught xv ev f #[.int .u64 0, .bool false, .int .u64 0, .slice none 0 0, .slice none 0 0] 53 w (w10.setCell ⟨ev, 0, none⟩ (.iface 85 (.pointer (some ⟨f, 0, none⟩)))) := ⟨(lit_far _ hne).trans (hx2.trans (by simp)), (lit_set _ HE10).trans rfl, ((((Duo.below HB.out).trans (Duo.below hb9)).trans (Duo.only ho2)).trans (Duo.only2 (Only.set ev 0 _ w10)))⟩
  have HCH := Lib.hid HC
  clear HC
  generalize w10.setCell ⟨ev, 0, none⟩ (.iface 85 (.pointer (some ⟨f, 0, none⟩))) = w11 at *
  go_wp2
  exact ⟨rfl, _, rfl, _, results_none rfl _ _ _, rfl, rfl, HCH.out⟩
set_option maxRecDepth 100000 in
set_option maxHeartbeats 4000000 in
theorem readSlot1_idle (xv ev : Nat) (w : World) :
    CallsD Tryz.prog 137 #[.pointer (some ⟨xv, 0, none⟩), .pointer (some ⟨ev, 0, none⟩)] .returning w fun e u' w' => e = .returned (.tuple #[]) ∧ u' = .returning ∧ w' = w := by
  have hta : ∀ w, (Instr.typeAssert .nilIface 20 38 true).run Tryz.prog w = .ok (.tuple #[.nilIface, .bool false]) w := fun w => by kernel_rfl
  refine callsD_of_wpS Tryz.func137 rfl fun c₀ cs hu => ?_
  simp only [Tryz.ntmps137, List.size_toArray, List.length_cons, List.length_nil, Nat.reduceAdd, Nat.reduceSub, Array.replicate_succ, Array.replicate_zero, List.push_toArray, List.append_toArray, List.nil_append, List.cons_append]
  apply wpS_seq
  apply wpS_region
  simp [wpOpsS, go_sem, recoverD, hu, Exit.thenS, hta]
  refine wpS_of_wp ?_
  go_wp2
  cases c₀
  simp only at hu
  subst hu
  exact ⟨rfl, _, rfl, _, results_none rfl _ _ _, rfl, rfl, rfl⟩

set_option maxRecDepth 100000 in
set_option maxHeartbeats 4000000 in
theorem readCert1_catch (f xv ev : Nat) (x0 x1 x2 x3 x4 x5 y : Value) (older : List PanicEntry) (w : World) (hg : GlobE w) (hf : f < w.heap.size) (hne : xv ≠ ev) (hx : w.heap[xv]? = some (.cells #[x0, x1, x2, x3, x4, x5] 27 (0, 0))) (he : w.heap[ev]? = some (.cells #[y] 38 (0, 0))) :
    CallsD Tryz.prog 58 #[.pointer (some ⟨xv, 0, none⟩), .pointer (some ⟨ev, 0, none⟩)] (.panicking ({ v := .iface 85 (.pointer (some ⟨f, 0, none⟩)), recovered := false } :: older)) w fun e u' w' =>
      e = .returned (.tuple #[]) ∧ u' = .panicking ({ v := .iface 85 (.pointer (some ⟨f, 0, none⟩)), recovered := true } :: older) ∧ Caught xv ev f #[.string ⟨#[]⟩, .int .u64 0, .slice none 0 0, .slice none 0 0, .slice none 0 0, .slice none 0 0] 27 w w' := by
  have hta := to_error
  have hxl := lit_lt hx
  have hel := lit_lt he
  have hN : (w.alloc (.cells #[.string ⟨#[]⟩, .int .u64 0, .slice none 0 0, .slice none 0 0, .slice none 0 0, .slice none 0 0] 27)).drew.heap[w.heap.size]? = some (.cells #[.string ⟨#[]⟩, .int .u64 0, .slice none 0 0, .slice none 0 0, .slice none 0 0, .slice none 0 0] 27 (0, 0)) := heap_alloc_new w (.cells #[.string ⟨#[]⟩, .int .u64 0, .slice none 0 0, .slice none 0 0, .slice none 0 0, .slice none 0 0] 27)
  have HB := Lib.hid ((by0 w (.cells #[.string ⟨#[]⟩, .int .u64 0, .slice none 0 0, .slice none 0 0, .slice none 0 0, .slice none 0 0] 27)).drew)
  have HF := Lib.hid (faultOf_any f _ (hg.next HB.out) (by show f < (w.alloc _).heap.size; rw [World.size_alloc]; omega))
  have HX := Lib.hid ((HB.out.block xv hxl).trans hx)
  have HE := Lib.hid ((HB.out.block ev hel).trans he)
  have HL := Lib.hid (And.intro hxl hel)
  clear hg hx he
  refine callsD_of_wpS Tryz.func58 rfl fun c₀ cs hu => ?_
  simp only [Tryz.ntmps58, List.size_toArray, List.length_cons, List.length_nil, Nat.reduceAdd, Nat.reduceSub, Array.replicate_succ, Array.replicate_zero, List.push_toArray, List.append_toArray, List.nil_append, List.cons_append]
  apply wpS_seq
  apply wpS_region
  simp [wpOpsS, go_sem, recoverD, hu, Exit.thenS, hta]
  refine wpS_of_wp ?_
  go_upto_region 3 with fail
  refine wp_region_held_drew (S := fun w' => w'.heap[w.heap.size]? = some (.cells #[.string ⟨#[]⟩, .int .u64 0, .slice none 0 0, .slice none 0 0, .slice none 0 0, .slice none 0 0] 27 (0, 0))) (by kernel_rfl) hN (fun hH => ?_)
  generalize (w.alloc (.cells #[.string ⟨#[]⟩, .int .u64 0, .slice none 0 0, .slice none 0 0, .slice none 0 0, .slice none 0 0] 27)).drew = w8 at *
  refine wpAnyH_take (i := 0) (oi := ⟨some 11, .load 27 (.tmp 4), _, _, _, none⟩) (v := .agg #[.string ⟨#[]⟩, .int .u64 0, .slice none 0 0, .slice none 0 0, .slice none 0 0, .slice none 0 0]) rfl (by kernel_rfl) (by kernel_rfl) (by kernel_rfl) (fun _ _ _ h => h) (Or.inl ⟨by rfl, fun w1 hS => by have c0 := (lit_cell hS 0).trans rfl; have c1 := (lit_cell hS 1).trans rfl; have c2 := (lit_cell hS 2).trans rfl; have c3 := (lit_cell hS 3).trans rfl; have c4 := (lit_cell hS 4).trans rfl; have c5 := (lit_cell hS 5).trans rfl; go_simp⟩) hH ?_
  try simp only [Act.put, List.setIfInBounds_toArray, List.set_cons_succ, List.set_cons_zero]
  refine wpAnyH_take (i := 1) (oi := ⟨some 12, .move (.tmp 2), _, _, _, none⟩) (v := .iface 85 (.pointer (some ⟨f, 0, none⟩))) rfl (by kernel_rfl) (by kernel_rfl) (by kernel_rfl) (fun _ _ _ h => h) (Or.inl ⟨by rfl, fun _ _ => rfl⟩) hH ?_
  try simp only [Act.put, List.setIfInBounds_toArray, List.set_cons_succ, List.set_cons_zero]
  refine wpAnyH_ready (rs := [2]) (by kernel_rfl) (by simp) (AllReadyH.cons (o := ⟨some 13, .call ⟨.value (.func 43), #[.tmp 12], #[38]⟩, _, _, _, none⟩) rfl (fun K hK => ?_) AllReadyH.nil)
  have HK := Lib.hid hK
  clear hK
  go_simp
  refine HF.out.mono ?_
  rintro e w9 ⟨rfl, hb9⟩
  have hS9 := (hb9.block w.heap.size (lit_lt hH)).trans hH
  have HX9 := (hb9.block xv (lit_lt HX.out)).trans HX.out
  have HE9 := (hb9.block ev (lit_lt HE.out)).trans HE.out
  refine HK.out.out _ _ hS9 (fun _ => ?_)
  clear HK K
  try simp only [Act.put, List.setIfInBounds_toArray, List.set_cons_succ, List.set_cons_zero]
  refine wpAnyH_take (i := 3) (oi := ⟨some 14, .makeInterface 85 (.tmp 13), _, _, _, none⟩) (v := .iface 85 (.pointer (some ⟨f, 0, none⟩))) rfl (by kernel_rfl) (by kernel_rfl) (by kernel_rfl) (fun _ _ _ h => h) (Or.inl ⟨by rfl, fun _ _ => by first | rfl | go_simp⟩) hS9 ?_
  try simp only [Act.put, List.setIfInBounds_toArray, List.set_cons_succ, List.set_cons_zero]
  have p0 := (lit_cell HX9 0).trans rfl
  have q0 := lit_free HX9 0
  have p1 := (lit_cell HX9 1).trans rfl
  have q1 := lit_free HX9 1
  have p2 := (lit_cell HX9 2).trans rfl
  have q2 := lit_free HX9 2
  have p3 := (lit_cell HX9 3).trans rfl
  have q3 := lit_free HX9 3
  have p4 := (lit_cell HX9 4).trans rfl
  have q4 := lit_free HX9 4
  have p5 := (lit_cell HX9 5).trans rfl
  have q5 := lit_free HX9 5
  refine wpAnyH_ready (rs := [4]) (by kernel_rfl) (by simp) (AllReadyH.cons (o := ⟨none, .store 27 (.tmp 0) (.tmp 11), _, _, _, none⟩) rfl (fun K hK => ?_) AllReadyH.nil)
  have hx2 := lit_set (k := 5) (.slice none 0 0) (lit_set (k := 4) (.slice none 0 0) (lit_set (k := 3) (.slice none 0 0) (lit_set (k := 2) (.slice none 0 0) (lit_set (k := 1) (.int .u64 0) (lit_set (k := 0) (.string ⟨#[]⟩) (HX9))))))
  have ho2 : Only xv w9 (((((((w9).setCell ⟨xv, 0, none⟩ (.string ⟨#[]⟩)).setCell ⟨xv, 1, none⟩ (.int .u64 0)).setCell ⟨xv, 2, none⟩ (.slice none 0 0)).setCell ⟨xv, 3, none⟩ (.slice none 0 0)).setCell ⟨xv, 4, none⟩ (.slice none 0 0)).setCell ⟨xv, 5, none⟩ (.slice none 0 0)) := ((((((Only.refl xv w9).trans (Only.set xv 0 (.string ⟨#[]⟩) (w9))).trans (Only.set xv 1 (.int .u64 0) ((w9).setCell ⟨xv, 0, none⟩ (.string ⟨#[]⟩)))).trans (Only.set xv 2 (.slice none 0 0) (((w9).setCell ⟨xv, 0, none⟩ (.string ⟨#[]⟩)).setCell ⟨xv, 1, none⟩ (.int .u64 0)))).trans (Only.set xv 3 (.slice none 0 0) ((((w9).setCell ⟨xv, 0, none⟩ (.string ⟨#[]⟩)).setCell ⟨xv, 1, none⟩ (.int .u64 0)).setCell ⟨xv, 2, none⟩ (.slice none 0 0)))).trans (Only.set xv 4 (.slice none 0 0) (((((w9).setCell ⟨xv, 0, none⟩ (.string ⟨#[]⟩)).setCell ⟨xv, 1, none⟩ (.int .u64 0)).setCell ⟨xv, 2, none⟩ (.slice none 0 0)).setCell ⟨xv, 3, none⟩ (.slice none 0 0)))).trans (Only.set xv 5 (.slice none 0 0) ((((((w9).setCell ⟨xv, 0, none⟩ (.string ⟨#[]⟩)).setCell ⟨xv, 1, none⟩ (.int .u64 0)).setCell ⟨xv, 2, none⟩ (.slice none 0 0)).setCell ⟨xv, 3, none⟩ (.slice none 0 0)).setCell ⟨xv, 4, none⟩ (.slice none 0 0)))
  go_simp
  change K _ (((((((w9).setCell ⟨xv, 0, none⟩ (.string ⟨#[]⟩)).setCell ⟨xv, 1, none⟩ (.int .u64 0)).setCell ⟨xv, 2, none⟩ (.slice none 0 0)).setCell ⟨xv, 3, none⟩ (.slice none 0 0)).setCell ⟨xv, 4, none⟩ (.slice none 0 0)).setCell ⟨xv, 5, none⟩ (.slice none 0 0))
  generalize ((((((w9).setCell ⟨xv, 0, none⟩ (.string ⟨#[]⟩)).setCell ⟨xv, 1, none⟩ (.int .u64 0)).setCell ⟨xv, 2, none⟩ (.slice none 0 0)).setCell ⟨xv, 3, none⟩ (.slice none 0 0)).setCell ⟨xv, 4, none⟩ (.slice none 0 0)).setCell ⟨xv, 5, none⟩ (.slice none 0 0) = w10 at *
  have hne2 : xv ≠ w.heap.size := by have := HL.out; omega
  have hS10 := (ho2.block w.heap.size (lit_lt hS9) (by omega)).trans hS9
  have HE10 := (ho2.block ev (lit_lt HE9) (by omega)).trans HE9
  refine hK.out _ _ hS10 (fun _ => ?_)
  clear hK K
  try simp only [Act.put, List.setIfInBounds_toArray, List.set_cons_succ, List.set_cons_zero]
  have y0 := (lit_cell HE10 0).trans rfl
  have y1 := lit_free HE10 0
  refine wpAnyH_ready (rs := [5]) (by kernel_rfl) (by simp) (AllReadyH.cons (o := ⟨none, .store 38 (.tmp 1) (.tmp 14), _, _, _, none⟩) rfl (fun K hK => ?_) AllReadyH.nil)
  go_simp
  have hS11 : (w10.setCell ⟨ev, 0, none⟩ (.iface 85 (.pointer (some ⟨f, 0, none⟩)))).heap[w.heap.size]? = some (.cells #[.string ⟨#[]⟩, .int .u64 0, .slice none 0 0, .slice none 0 0, .slice none 0 0, .slice none 0 0] 27 (0, 0)) := (lit_far _ (by have := HL.out; omega)).trans hS10
  refine hK.out _ _ hS11 (fun _ => ?_)
  clear hK K
  try simp only [Act.put, List.setIfInBounds_toArray, List.set_cons_succ, List.set_cons_zero]
  refine wpAnyH_done (by kernel_rfl) ?_ _
  have HC : Caught xv ev f #[.string ⟨#[]⟩, .int .u64 0, .slice none 0 0, .slice none 0 0, .slice none 0 0, .slice none 0 0] 27 w (w10.setCell ⟨ev, 0, none⟩ (.iface 85 (.pointer (some ⟨f, 0, none⟩)))) := ⟨(lit_far _ hne).trans (hx2.trans (by simp)), (lit_set _ HE10).trans rfl, ((((Duo.below HB.out).trans (Duo.below hb9)).trans (Duo.only ho2)).trans (Duo.only2 (Only.set ev 0 _ w10)))⟩
  have HCH := Lib.hid HC
  clear HC
  generalize w10.setCell ⟨ev, 0, none⟩ (.iface 85 (.pointer (some ⟨f, 0, none⟩))) = w11 at *
  go_wp2
  exact ⟨rfl, _, rfl, _, results_none rfl _ _ _, rfl, rfl, HCH.out⟩
set_option maxRecDepth 100000 in
set_option maxHeartbeats 4000000 in
theorem readCert1_idle (xv ev : Nat) (w : World) :
    CallsD Tryz.prog 58 #[.pointer (some ⟨xv, 0, none⟩), .pointer (some ⟨ev, 0, none⟩)] .returning w fun e u' w' => e = .returned (.tuple #[]) ∧ u' = .returning ∧ w' = w := by
  have hta : ∀ w, (Instr.typeAssert .nilIface 20 38 true).run Tryz.prog w = .ok (.tuple #[.nilIface, .bool false]) w := fun w => by kernel_rfl
  refine callsD_of_wpS Tryz.func58 rfl fun c₀ cs hu => ?_
  simp only [Tryz.ntmps58, List.size_toArray, List.length_cons, List.length_nil, Nat.reduceAdd, Nat.reduceSub, Array.replicate_succ, Array.replicate_zero, List.push_toArray, List.append_toArray, List.nil_append, List.cons_append]
  apply wpS_seq
  apply wpS_region
  simp [wpOpsS, go_sem, recoverD, hu, Exit.thenS, hta]
  refine wpS_of_wp ?_
  go_wp2
  cases c₀
  simp only at hu
  subst hu
  exact ⟨rfl, _, rfl, _, results_none rfl _ _ _, rfl, rfl, rfl⟩

end Go.Proofs.YtlhmmplkdjibkaaGreatDoor
/- ReadPart, ReadMsg, ReadHeader: rows that read; read[T]. -/
namespace Go.Proofs.YtlhmmplkdjibkaaGreatDoor
open Go.RowKit

/-- the whole of some bytes as a thing -/
def wholeG {ρ : Type} (g : (List UInt8) → Nat → Res ρ) (S : (List UInt8)) : Except Flt ρ := match g S 0 with
  | .error f => .error f
  | .ok (p, k) => if k < S.length then .error (5, k) else .ok p
/-- what a panic leaves: only the cells of the results and what is deferred count -/
def Cel (P : Program) (fn : Func) (R : Ending → World → Prop) (K : Act → World → Prop) (X Y : Value) (D : List Deferred) : Exit → Act → World → Prop
  | .panic c, a, w => (a.tmps[4]? = some X ∧ a.tmps[5]? = some Y ∧ a.defers = D) ∧ ∀ tm : Array Value, tm[4]? = some X → tm[5]? = some Y → Leaves P fn tm R D (.panicking c) w
  | e, a, w => Exit.then K (bodyPostD P fn R) e a w
theorem wp_cel {P : Program} {fn : Func} {R : Ending → World → Prop} {K : Act → World → Prop} {X Y : Value} {D : List Deferred} {c : Code} {a : Act} {w : World} (h : c.wp P (Cel P fn R K X Y D) a w) : c.wp P (Exit.then K (bodyPostD P fn R)) a w := by
  refine wp_mono h fun e a w q => ?_
  cases e with
  | panic c =>
    obtain ⟨⟨h1, h2, h3⟩, h4⟩ := q
    show Leaves P fn a.tmps R a.defers _ w
    rw [h3]
    exact h4 _ h1 h2
  | _ => exact q
theorem Cel.put {P : Program} {fn : Func} {R : Ending → World → Prop} {K : Act → World → Prop} {X Y : Value} {D : List Deferred} {d : Nat} {v : Value} (hd : 5 < d) : ∀ c a w, Cel P fn R K X Y D (.panic c) (a.put (some d) v) w → Cel P fn R K X Y D (.panic c) a w := by
  intro c a w h
  obtain ⟨⟨h1, h2, h3⟩, h4⟩ := h
  refine ⟨⟨?_, ?_, h3⟩, h4⟩
  · rw [← h1]; simp only [Act.put, Array.getElem?_setIfInBounds]; rw [if_neg (by omega)]
  · rw [← h2]; simp only [Act.put, Array.getElem?_setIfInBounds]; rw [if_neg (by omega)]
theorem below_duo {w w1 w2 : World} {A x : Nat} (h : Below w.heap.size w w1) (k : Duo A x w1 w2) (hA : w.heap.size ≤ A) (hx : w.heap.size ≤ x) : Below w.heap.size w w2 :=
  ⟨k.os.trans h.os, k.tape.trans h.tape, k.output.trans h.output, Nat.le_trans h.size k.size, fun i hi => (k.block i (Nat.lt_of_lt_of_le hi h.size) (by omega) (by omega)).trans (h.block i hi)⟩
theorem dig_some (s : (List UInt8)) : (if s = [] then none else some s).isSome = !s.isEmpty := by cases s <;> rfl

def RpPart (t : Nat) (p : PartR) (w : World) : Prop := w.heap[t]? = some (.cells (partQ p).toArray 55 (0, 0))
set_option maxRecDepth 100000 in
theorem part_rd {w0 : World} {lo rb t fb : Nat} {S : (List UInt8)} {fs : List FV} (hK : PartK lo t 0 fb fs w0) (hlo : rb < lo ∧ t < lo) (hrt : t ≠ rb) (hS : S.length ≤ 1000000) : ∃ xs : List (RW PartR), fs = xs.map (·.f) ∧ xs.length = 5 ∧ xs.map (·.g) = partFs ∧ (∀ x ∈ xs, ReadF w0 rb t S (RpPart t) x) ∧ ∀ p, okV partFs p → (!xs.any fun x => x.f.needed && !(x.g.view p).isSome) = (!p.root.isEmpty) := by
  obtain ⟨⟨k0, k1, k2, k3, k4, rfl, h0, h1, h2, h3, h4⟩, _, _⟩ := hK
  refine ⟨[⟨numFV 102 k0, numFld 102 (·.first) (fun p v => { p with first := v }), numRd⟩, ⟨numFV 107 k1, numFld 107 (·.keys) (fun p v => { p with keys := v }), numRd⟩, ⟨numFV 108 k2, numFld 108 (·.life) (fun p v => { p with life := v }), numRd⟩, ⟨digFV 114 k3, digFld 114 (·.root) (fun p v => { p with root := v }), digRd⟩, ⟨numFV 119 k4, numFld 119 (·.weight) (fun p v => { p with weight := v }), numRd⟩], rfl, rfl, rfl, fun x hx => ?_, fun p _ => ?_⟩
  · simp only [List.mem_cons, List.not_mem_nil, or_false] at hx
    rcases hx with rfl | rfl | rfl | rfl | rfl
    · exact read_num (T := 55) h0 hlo hrt hS (fun p w h => ⟨_, h, rfl, fun v w' _ h' => h'⟩) (fun p h => by cases p; simp_all)
    · exact read_num (T := 55) h1 hlo hrt hS (fun p w h => ⟨_, h, rfl, fun v w' _ h' => h'⟩) (fun p h => by cases p; simp_all)
    · exact read_num (T := 55) h2 hlo hrt hS (fun p w h => ⟨_, h, rfl, fun v w' _ h' => h'⟩) (fun p h => by cases p; simp_all)
    · exact read_dig (T := 55) h3 hlo hrt hS (fun p w h => ⟨_, h, rfl, fun v w' _ h' => h'⟩)
    · exact read_num (T := 55) h4 hlo hrt hS (fun p w h => ⟨_, h, rfl, fun v w' _ h' => h'⟩) (fun p h => by cases p; simp_all)
  · simp only [List.any_cons, List.any_nil, numFld, digFld, Bool.false_and, Bool.true_and, Bool.or_false, Bool.false_or]
    simp only [dig_some]
    generalize p.root.isEmpty = a0
    cases a0 <;> rfl

/-- what read answers -/
def AnsPart (S : (List UInt8)) (w : World) (e : Ending) (w' : World) : Prop := match wholeG partC.get S with
  | .ok p => e = .returned (.tuple #[partV p, .nilIface]) ∧ Below w.heap.size w w'
  | .error (c, b) => c ≠ 0 ∧ (∃ v, e = .returned (.tuple #[partV zPart, v]) ∧ ErrV w.heap.size c b v w') ∧ Below w.heap.size w w'
set_option maxRecDepth 100000 in
set_option maxHeartbeats 4000000 in
theorem freadPart_any (S : (List UInt8)) (w : World) (hG : GlobW w) (hS : S.length ≤ 1000000) (hgl : 4 ≤ w.heap.size) :
    Calls Tryz.prog 84 #[.string ⟨S.toArray⟩, .func (.func 80) #[] #[]] w (AnsPart S w) := by
  have hmf : ∀ (fn : Fn) (first cap : Array Value) (w : World), (Instr.makeFunc fn first cap).run Tryz.prog w = .ok (.func fn first cap) w := fun _ _ _ _ => rfl
  have hb0 : Below w.heap.size w ((w.alloc (.cells #[.string ⟨#[]⟩, .int .u64 0, .int .u64 0, .int .u64 0, .int .u64 0] 55)).alloc (.cells #[.nilIface] 38)) := (by0 w _).alloc (by simp) _
  have hz0 : ((w.alloc (.cells #[.string ⟨#[]⟩, .int .u64 0, .int .u64 0, .int .u64 0, .int .u64 0] 55)).alloc (.cells #[.nilIface] 38)).heap.size = w.heap.size + 1 + 1 := by simp
  have hx0 : ((w.alloc (.cells #[.string ⟨#[]⟩, .int .u64 0, .int .u64 0, .int .u64 0, .int .u64 0] 55)).alloc (.cells #[.nilIface] 38)).heap[w.heap.size]? = some (.cells #[.string ⟨#[]⟩, .int .u64 0, .int .u64 0, .int .u64 0, .int .u64 0] 55 (0, 0)) := lit_old _ (heap_alloc_new w _)
  have he0 : ((w.alloc (.cells #[.string ⟨#[]⟩, .int .u64 0, .int .u64 0, .int .u64 0, .int .u64 0] 55)).alloc (.cells #[.nilIface] 38)).heap[w.heap.size + 1]? = some (.cells #[.nilIface] 38 (0, 0)) := by
    rw [show w.heap.size + 1 = (w.alloc (.cells #[.string ⟨#[]⟩, .int .u64 0, .int .u64 0, .int .u64 0, .int .u64 0] 55)).heap.size by simp]; exact heap_alloc_new _ _
  have HB0 := Lib.hid hb0
  have HZ0 := Lib.hid hz0
  have HX0 := Lib.hid hx0
  have HE0 := Lib.hid he0
  have HG := Lib.hid hG
  have HSL := Lib.hid hS
  have HGL := Lib.hid hgl
  have HU := Lib.hid (reader_c.new S 10240 _ (hG.u.next hb0) hS (by decide) (by decide))
  clear hb0 hz0 hx0 he0 hG hS hgl
  go_enter_defers Tryz.func84, Tryz.ntmps84
  go_upto_region 2 with fail
  generalize (w.alloc (.cells #[.string ⟨#[]⟩, .int .u64 0, .int .u64 0, .int .u64 0, .int .u64 0] 55)).alloc (.cells #[.nilIface] 38) = w1 at *
  go_upto_region 3 with (go_at_call 59; refine HU.out.mono ?_; rintro e w2 ⟨rb, hrb, rfl, hr2, hb2⟩)
  have hz0 := HZ0.out
  have hb02 : Below w.heap.size w w2 := HB0.out.trans (hb2.mono (by omega))
  have hx2 := (hb2.block w.heap.size (by omega)).trans HX0.out
  have he2 := (hb2.block (w.heap.size + 1) (by omega)).trans HE0.out
  have hrl : rb < w2.heap.size := lit_lt hr2.r
  have hN : (w2.alloc (.cells #[.pointer (some ⟨rb, 0, none⟩)] 124)).drew.heap[w2.heap.size]? = some (.cells #[.pointer (some ⟨rb, 0, none⟩)] 124 (0, 0)) := heap_alloc_new w2 _
  have hb23 : Below w2.heap.size w2 (w2.alloc (.cells #[.pointer (some ⟨rb, 0, none⟩)] 124)).drew := (by0 w2 _).drew
  have HS3 : Hid (w2.heap.size < (w2.alloc (.cells #[.pointer (some ⟨rb, 0, none⟩)] 124)).drew.heap.size) := Lib.hid (by show _ < (w2.alloc _).heap.size; rw [World.size_alloc]; omega)
  refine wp_cel (X := .pointer (some ⟨w.heap.size, 0, none⟩)) (Y := .pointer (some ⟨w.heap.size + 1, 0, none⟩)) (D := [{ target := .fn (.func 138) #[.pointer (some ⟨w.heap.size, 0, none⟩), .pointer (some ⟨w.heap.size + 1, 0, none⟩)], args := #[] }]) ?_
  refine wp_region_held_drew (S := fun w' => w'.heap[w2.heap.size]? = some (.cells #[.pointer (some ⟨rb, 0, none⟩)] 124 (0, 0))) (by kernel_rfl) hN (fun hH => ?_)
  generalize (w2.alloc (.cells #[.pointer (some ⟨rb, 0, none⟩)] 124)).drew = w3 at *
  have HR := Lib.hid (part_mk w3.heap.size w.heap.size 0 w3 (Nat.le_refl _))
  have HB03 := Lib.hid (hb02.trans (hb23.mono hb02.size))
  have HX3 := Lib.hid ((hb23.block w.heap.size (lit_lt hx2)).trans hx2)
  have HE3 := Lib.hid ((hb23.block (w.heap.size + 1) (lit_lt he2)).trans he2)
  have HR3 : Hid (RQ rb S 0 10240 w3) := Lib.hid ⟨(hb23.block rb hrl).trans hr2.r, hr2.m⟩
  have HRL : Hid (w.heap.size + 1 + 1 ≤ rb ∧ rb < w2.heap.size) := Lib.hid (by omega)
  clear hb02 hx2 he2 hb23 hN hr2 hb2 hrl
  refine wpAnyH_take (i := 0) (oi := ⟨some 12, .load 124 (.tmp 6), _, _, _, none⟩) (v := .agg #[.pointer (some ⟨rb, 0, none⟩)]) rfl (by kernel_rfl) (by kernel_rfl) (by kernel_rfl) (Cel.put (by decide)) (Or.inl ⟨by rfl, fun w1 hS => by have c0 := (lit_cell hS 0).trans rfl; go_simp⟩) hH ?_
  try simp only [Act.put, List.setIfInBounds_toArray, List.set_cons_succ, List.set_cons_zero]
  refine wpAnyH_take (i := 1) (oi := ⟨some 13, .move (.tmp 1), _, _, _, none⟩) (v := .func (.func 80) #[] #[]) rfl (by kernel_rfl) (by kernel_rfl) (by kernel_rfl) (Cel.put (by decide)) (Or.inl ⟨by rfl, fun _ _ => rfl⟩) hH ?_
  try simp only [Act.put, List.setIfInBounds_toArray, List.set_cons_succ, List.set_cons_zero]
  refine wpAnyH_ready (rs := [2]) (by kernel_rfl) (by simp) (AllReadyH.cons (o := ⟨some 14, .call ⟨.value (.tmp 13), #[.tmp 4], #[_]⟩, _, _, _, none⟩) rfl (fun K hK => ?_) AllReadyH.nil)
  have HK := Lib.hid hK
  clear hK
  go_simp
  refine HR.out.mono ?_
  rintro e w4 ⟨fb, fs, rfl, hK4, hb4⟩
  have hH4 := (hb4.block w2.heap.size (lit_lt hH)).trans hH
  obtain ⟨xs, hfs, hxn, hxg, hxf, hxfin⟩ := part_rd (S := S) (rb := rb) hK4 (by have := HRL.out; have := HS3.out; omega) (by have := HRL.out; omega) HSL.out
  have HB04 := Lib.hid (HB03.out.trans (hb4.mono HB03.out.size))
  have HX4 := Lib.hid ((hb4.block w.heap.size (lit_lt HX3.out)).trans HX3.out)
  have HE4 := Lib.hid ((hb4.block (w.heap.size + 1) (lit_lt HE3.out)).trans HE3.out)
  have HR4 : Hid (RQ rb S 0 10240 w4) := Lib.hid ⟨(hb4.block rb (by have := HRL.out; have := HS3.out; omega)).trans HR3.out.r, HR3.out.m⟩
  have hflds := part_flds
  have hGU4 := HG.out.u.next HB04.out
  have hrow := wrow_any w4 rb w.heap.size fb 0 5 S (RpPart w.heap.size) (fun p u u' h ho => (ho.block w.heap.size (lit_lt h) (by have := HRL.out; omega)).trans h) xs hxf zPart (by rw [hxg]; exact part_flds) 0 w4 (by have := HRL.out; have := HGL.out; omega) HSL.out (by rw [hxn]; decide) (by rw [← hfs]; exact hK4.r.row) (lit_lt hK4.r) (by have := hK4.l; have := HRL.out; have := HS3.out; omega) (by have := lit_lt HX4.out; exact this) ⟨Duo.refl _ _ _, hGU4, HX4.out, HR4.out, Nat.zero_le _⟩
  rw [hxg, mapG_congr part_flds hxfin, hxn, List.drop_zero] at hrow
  have HGU4 := Lib.hid hGU4
  have HROW := Lib.hid hrow
  clear hrow hfs hxn hxg hxf hxfin hK4 hb4 hflds hGU4
  refine HK.out.out _ _ hH4 (fun _ => ?_)
  clear HK K
  try simp only [Act.put, List.setIfInBounds_toArray, List.set_cons_succ, List.set_cons_zero]
  refine wpAnyH_ready (rs := [3]) (by kernel_rfl) (by simp) (AllReadyH.cons (o := ⟨some 15, .call ⟨.value (.func 60), #[.tmp 12, .tmp 14], #[124, 60]⟩, _, _, _, none⟩) rfl (fun K hK => ?_) AllReadyH.nil)
  have HK := Lib.hid hK
  clear hK
  go_simp
  refine HROW.out.mono ?_
  intro e w5 h5
  change Read rb w.heap.size S (RpPart w.heap.size) 0 w4.heap.size w4 (partC.get S 0) e w5 at h5
  cases hres : partC.get S 0 with
  | error f =>
    rw [hres] at h5
    obtain ⟨hc, ⟨g, hg, rfl, hf0, hf1⟩, hd, q, hq⟩ := h5
    refine ⟨⟨rfl, rfl, rfl⟩, fun tm hm4 hm5 => ?_⟩
    have hrb := HRL.out
    have hE5 := (hd.block (w.heap.size + 1) (lit_lt HE4.out) (by omega) (by omega)).trans HE4.out
    have hgl5 := World.block_lt_of_cell? _ _ hf0
    have hg4 := lit_lt HE4.out
    refine leaves_cons (f := 138) (args := #[.pointer (some ⟨w.heap.size, 0, none⟩), .pointer (some ⟨w.heap.size + 1, 0, none⟩)]) (by simp) (by simp [go_sem]) ?_
    refine (readPart1_catch g w.heap.size (w.heap.size + 1) _ _ _ _ _ .nilIface [] w5 (HGU4.out.duo hd (by have := HGL.out; omega) HGL.out).e hgl5 (by omega) hq hE5).mono ?_
    rintro e u' w'' ⟨rfl, rfl, hC⟩
    have z0 := (lit_cell hC.x 0).trans rfl; have z1 := (lit_cell hC.x 1).trans rfl; have z2 := (lit_cell hC.x 2).trans rfl; have z3 := (lit_cell hC.x 3).trans rfl; have z4 := (lit_cell hC.x 4).trans rfl
    have y0 := (lit_cell hC.e 0).trans rfl
    refine ⟨.tuple #[partV zPart, .iface 85 (.pointer (some ⟨g, 0, none⟩))], by simp [results, Tryz.results84, go_sem, hm4, hm5, z0, z1, z2, z3, z4, y0, zPart], ?_⟩
    have hgb : ∀ o, w''.cell? ⟨g, o, none⟩ = w5.cell? ⟨g, o, none⟩ := fun o => World.cell?_of_block (a := ⟨g, o, none⟩) (hC.d.block g hgl5 (by omega) (by omega))
    rw [AnsPart, wholeG, hres]
    exact ⟨hc, ⟨_, rfl, by rw [ErrV, if_neg (by omega)]; exact ⟨g, by omega, rfl, (hgb 0).trans hf0, (hgb 1).trans hf1⟩⟩, below_duo (below_duo HB04.out hd (by omega) (Nat.le_refl _)) hC.d (Nat.le_refl _) (by omega)⟩
  | ok q =>
    obtain ⟨q, k⟩ := q
    rw [hres] at h5
    obtain ⟨rfl, hq, hR5, hk, hd⟩ := h5
    have hrb := HRL.out
    have hg4 := lit_lt HE4.out
    have hH5 := (hd.block w2.heap.size (lit_lt hH4) (by omega) (by omega)).trans hH4
    refine HK.out.out _ _ hH5 (fun _ => ?_)
    clear HK K
    try simp only [Act.put, List.setIfInBounds_toArray, List.set_cons_succ, List.set_cons_zero]
    refine wpAnyH_done (by kernel_rfl) ?_ _
    change Exit.then _ (bodyPostD Tryz.prog Tryz.f84 (AnsPart S w)) Exit.normal _ _
    have hGU5 := HGU4.out.duo hd (by have := HGL.out; omega) HGL.out
    have HB05 := Lib.hid (below_duo HB04.out hd (by omega) (Nat.le_refl _))
    have hE5 := (hd.block (w.heap.size + 1) (lit_lt HE4.out) (by omega) (by omega)).trans HE4.out
    have HF := Lib.hid (reader_c.fin rb S (0 + k) 10240 w5 hR5 hGU5 HSL.out hk)
    have HQ := Lib.hid hq
    have HE5 := Lib.hid hE5
    have HGU5 := Lib.hid hGU5
    have HLT := Lib.hid (show w.heap.size + 1 < w5.heap.size from lit_lt hE5)
    have c0 := (lit_cell hH5 0).trans rfl
    clear hq hR5 hd hrb hg4 hH5 hGU5 hE5 hk hH hH4 hmf
    by_cases hl : 0 + k < S.length
    · have HA : Hid (wholeG partC.get S = .error (5, k)) := Lib.hid (by rw [wholeG, hres]; exact if_pos (by omega))
      rw [if_pos hl] at HF
      clear hl hres
      go_wp2_with (go_at_call 61; refine HF.out.mono ?_; rintro e w6 ⟨v, rfl, hv, hb6⟩; obtain ⟨g, rfl, g1, hg, hgg, hf0, hf1⟩ := hv.shape (by decide); cases hgg)
      have hX6 := (hb6.block w.heap.size (by have := HLT.out; omega)).trans HQ.out
      have hE6 := (hb6.block (w.heap.size + 1) HLT.out).trans HE5.out
      have hgl5 := World.block_lt_of_cell? _ _ hf0
      have hlt := HLT.out
      refine leaves_cons (f := 138) (args := #[.pointer (some ⟨w.heap.size, 0, none⟩), .pointer (some ⟨w.heap.size + 1, 0, none⟩)]) (by simp) (by simp [go_sem]) ?_
      refine (readPart1_catch g w.heap.size (w.heap.size + 1) _ _ _ _ _ .nilIface [] w6 (HGU5.out.next hb6).e hgl5 (by omega) hX6 hE6).mono ?_
      rintro e u' w'' ⟨rfl, rfl, hC⟩
      have z0 := (lit_cell hC.x 0).trans rfl; have z1 := (lit_cell hC.x 1).trans rfl; have z2 := (lit_cell hC.x 2).trans rfl; have z3 := (lit_cell hC.x 3).trans rfl; have z4 := (lit_cell hC.x 4).trans rfl
      have y0 := (lit_cell hC.e 0).trans rfl
      refine ⟨.tuple #[partV zPart, .iface 85 (.pointer (some ⟨g, 0, none⟩))], by simp [results, Tryz.results84, go_sem, z0, z1, z2, z3, z4, y0, zPart], ?_⟩
      have hgb : ∀ o, w''.cell? ⟨g, o, none⟩ = w6.cell? ⟨g, o, none⟩ := fun o => World.cell?_of_block (a := ⟨g, o, none⟩) (hC.d.block g hgl5 (by omega) (by omega))
      rw [AnsPart, HA.out]
      exact ⟨by decide, ⟨_, rfl, by rw [ErrV, if_neg (by decide)]; exact ⟨g, by omega, rfl, (hgb 0).trans hf0, (hgb 1).trans (hf1.trans (by rw [Nat.zero_add]))⟩⟩, below_duo (HB05.out.trans (hb6.mono (by omega))) hC.d (Nat.le_refl _) (by omega)⟩
    · have HA : Hid (wholeG partC.get S = .ok q) := Lib.hid (by rw [wholeG, hres]; exact if_neg (by omega))
      rw [if_neg hl] at HF
      clear hl hres
      go_wp2_with (go_at_call 61; refine HF.out.mono ?_; rintro e w6 ⟨v, rfl, hv, hb6⟩; have hnil := hv.nil rfl; subst hnil; have hX6 := (hb6.block w.heap.size (by have := HLT.out; omega)).trans HQ.out; have hE6 := (hb6.block (w.heap.size + 1) HLT.out).trans HE5.out; simp only [partQ] at hX6; have p0 := (lit_cell hX6 0).trans rfl; have q0 := lit_free hX6 0; have p1 := (lit_cell hX6 1).trans rfl; have q1 := lit_free hX6 1; have p2 := (lit_cell hX6 2).trans rfl; have q2 := lit_free hX6 2; have p3 := (lit_cell hX6 3).trans rfl; have q3 := lit_free hX6 3; have p4 := (lit_cell hX6 4).trans rfl; have q4 := lit_free hX6 4; have y0 := (lit_cell hE6 0).trans rfl; have y1 := lit_free hE6 0)
      have hlt := HLT.out
      have hx7 := lit_set (k := 4) (.int .u64 (q.keys : Int)) (lit_set (k := 3) (.int .u64 (q.life : Int)) (lit_set (k := 2) (.int .u64 (q.first : Int)) (lit_set (k := 1) (.int .u64 (q.weight : Int)) (lit_set (k := 0) (.string ⟨q.root.toArray⟩) (hX6)))))
      have ho7 : Only w.heap.size w6 ((((((w6).setCell ⟨w.heap.size, 0, none⟩ (.string ⟨q.root.toArray⟩)).setCell ⟨w.heap.size, 1, none⟩ (.int .u64 (q.weight : Int))).setCell ⟨w.heap.size, 2, none⟩ (.int .u64 (q.first : Int))).setCell ⟨w.heap.size, 3, none⟩ (.int .u64 (q.life : Int))).setCell ⟨w.heap.size, 4, none⟩ (.int .u64 (q.keys : Int))) := ((((((Only.refl w.heap.size w6).trans (Only.set w.heap.size 0 (.string ⟨q.root.toArray⟩) (w6))).trans (Only.set w.heap.size 1 (.int .u64 (q.weight : Int)) ((w6).setCell ⟨w.heap.size, 0, none⟩ (.string ⟨q.root.toArray⟩)))).trans (Only.set w.heap.size 2 (.int .u64 (q.first : Int)) (((w6).setCell ⟨w.heap.size, 0, none⟩ (.string ⟨q.root.toArray⟩)).setCell ⟨w.heap.size, 1, none⟩ (.int .u64 (q.weight : Int))))).trans (Only.set w.heap.size 3 (.int .u64 (q.life : Int)) ((((w6).setCell ⟨w.heap.size, 0, none⟩ (.string ⟨q.root.toArray⟩)).setCell ⟨w.heap.size, 1, none⟩ (.int .u64 (q.weight : Int))).setCell ⟨w.heap.size, 2, none⟩ (.int .u64 (q.first : Int))))).trans (Only.set w.heap.size 4 (.int .u64 (q.keys : Int)) (((((w6).setCell ⟨w.heap.size, 0, none⟩ (.string ⟨q.root.toArray⟩)).setCell ⟨w.heap.size, 1, none⟩ (.int .u64 (q.weight : Int))).setCell ⟨w.heap.size, 2, none⟩ (.int .u64 (q.first : Int))).setCell ⟨w.heap.size, 3, none⟩ (.int .u64 (q.life : Int)))))
      have he7 := (ho7.block (w.heap.size + 1) (lit_lt hE6) (by omega)).trans hE6
      have hd7 : Below w.heap.size w ((((((w6).setCell ⟨w.heap.size, 0, none⟩ (.string ⟨q.root.toArray⟩)).setCell ⟨w.heap.size, 1, none⟩ (.int .u64 (q.weight : Int))).setCell ⟨w.heap.size, 2, none⟩ (.int .u64 (q.first : Int))).setCell ⟨w.heap.size, 3, none⟩ (.int .u64 (q.life : Int))).setCell ⟨w.heap.size, 4, none⟩ (.int .u64 (q.keys : Int))) := below_duo (HB05.out.trans (hb6.mono (by omega))) (Duo.only (x := w.heap.size) ho7) (Nat.le_refl _) (Nat.le_refl _)
      generalize (((((w6).setCell ⟨w.heap.size, 0, none⟩ (.string ⟨q.root.toArray⟩)).setCell ⟨w.heap.size, 1, none⟩ (.int .u64 (q.weight : Int))).setCell ⟨w.heap.size, 2, none⟩ (.int .u64 (q.first : Int))).setCell ⟨w.heap.size, 3, none⟩ (.int .u64 (q.life : Int))).setCell ⟨w.heap.size, 4, none⟩ (.int .u64 (q.keys : Int)) = w7 at *
      have hx8 := (lit_far (w := w7) (b := w.heap.size + 1) (c := w.heap.size) (k := 0) .nilIface (by omega)).trans hx7
      have he8 := lit_set (k := 0) .nilIface he7
      have hb8 : Below w.heap.size w (w7.setCell ⟨w.heap.size + 1, 0, none⟩ .nilIface) := hd7.setCell (by simp) _
      generalize w7.setCell ⟨w.heap.size + 1, 0, none⟩ .nilIface = w8 at *
      refine leaves_cons (f := 138) (args := #[.pointer (some ⟨w.heap.size, 0, none⟩), .pointer (some ⟨w.heap.size + 1, 0, none⟩)]) (by simp) (by simp [go_sem]) ?_
      refine (readPart1_idle w.heap.size (w.heap.size + 1) w8).mono ?_
      rintro e u' w'' ⟨rfl, rfl, rfl⟩
      have z0 := (lit_cell hx8 0).trans rfl; have z1 := (lit_cell hx8 1).trans rfl; have z2 := (lit_cell hx8 2).trans rfl; have z3 := (lit_cell hx8 3).trans rfl; have z4 := (lit_cell hx8 4).trans rfl
      have z := (lit_cell he8 0).trans rfl
      refine ⟨.tuple #[partV q, .nilIface], by simp [results, Tryz.results84, go_sem, z0, z1, z2, z3, z4, z], ?_⟩
      rw [AnsPart, HA.out]
      exact ⟨rfl, hb8⟩

/-- what read answers -/
def AnsMsg (S : (List UInt8)) (w : World) (e : Ending) (w' : World) : Prop := match wholeG msgC.get S with
  | .ok p => e = .returned (.tuple #[msgV p, .nilIface]) ∧ Below w.heap.size w w'
  | .error (c, b) => c ≠ 0 ∧ (∃ v, e = .returned (.tuple #[msgV zMsg, v]) ∧ ErrV w.heap.size c b v w') ∧ Below w.heap.size w w'
/-- what read answers -/
def AnsHeader (S : (List UInt8)) (w : World) (e : Ending) (w' : World) : Prop := match wholeG hdrC.get S with
  | .ok p => e = .returned (.tuple #[hdrV p, .nilIface]) ∧ Below w.heap.size w w'
  | .error (c, b) => c ≠ 0 ∧ (∃ v, e = .returned (.tuple #[hdrV zHdr, v]) ∧ ErrV w.heap.size c b v w') ∧ Below w.heap.size w w'
end Go.Proofs.YtlhmmplkdjibkaaGreatDoor
/- The chapter's examples: what is laid and read, by the kernel. -/
namespace Go.Proofs.YtlhmmplkdjibkaaGreatDoor
open Go.RowKit

def rL : (List UInt8) := List.replicate 32 114
def vPart : PartR := ⟨rL, 300, 0, 2, 3⟩
def vSlot : SlotR := ⟨5, true, ⟨0, [], []⟩⟩
theorem ex_part : layPartP vPart = ([132, 161, 107, 3, 161, 108, 2, 161, 114, 196, 32] ++ rL ++ [161, 119, 205, 1, 44], 0) := by kernel_rfl
theorem ex_slot0 : laySlotP zSlot = ([128], 0) := by kernel_rfl
theorem ex_slot1 : laySlotP vSlot = ([130, 161, 108, 5, 161, 115, 1], 0) := by kernel_rfl
theorem ex_part2 : layPartP ⟨rL.drop 1, 0, 0, 0, 0⟩ = ([], 2) := by kernel_rfl
theorem ex_msg : layMsgP zMsg = ([], 2) := by kernel_rfl
theorem ex_r0 : wholeG slotC.get [128] = .ok zSlot := by kernel_rfl
theorem ex_b0 : wholeG slotC.get [129, 161, 108, 0] = .error (5, 0) := by kernel_rfl
theorem ex_b1 : wholeG slotC.get [130, 161, 115, 1, 161, 108, 5] = .error (5, 0) := by kernel_rfl
theorem ex_b2 : wholeG slotC.get [129, 161, 115, 2] = .error (5, 0) := by kernel_rfl
theorem ex_l : wholeG slotC.get [128, 128] = .error (5, 1) := by kernel_rfl
theorem ex_m : wholeG partC.get [128] = .error (5, 0) := by kernel_rfl
theorem ex_n : wholeG partC.get [] = .error (4, 0) := by kernel_rfl
theorem ex_o : wholeG partC.get [129, 161, 119, 204, 5] = .error (5, 3) := by kernel_rfl
end Go.Proofs.YtlhmmplkdjibkaaGreatDoor
/-
  DERIVED: THE SHELF's CONTRACTS AT THIS DUMP, IN PLAIN WORDS (tools/lay-plain.mjs out of 'TryzShelf.lean', which tools/lay-shelf.mjs wrote): THE SAME DECLARATIONS UNDER THE SAME NAMES: 'import', 'namespace', 'open', 'def', 'theorem' AND NOTHING ELSE: no command of the shelf's: FOR A HAND-IN. Each laying: the table of numbers ('.._ren') and one theorem, a field a fact of the dump's own or the kernel's comparison; each contract: ONE APPLICATION.
-/
namespace Go.Proofs
open Go.Shelf
open Go.RowKit in
open Go.RowKit in
open Go.RowKit in
open Go.RowKit in
open Go.RowKit in
open Go.RowKit in
open Go.RowKit in
open Go.RowKit in
open Go.RowKit in
open Go.RowKit in
open Go.RowKit Go.Lib in
open Go.RowKit Go.Lib in
open Go.RowKit Go.Lib in
open Go.RowKit Go.Lib in
def Tryz.lays105_ren : Go.Shelf.Ren := ⟨fun | 105 => 79 | 212 => 129 | 99 => 130 | 165 => 131 | 166 => 132 | 170 => 133 | 169 => 134 | 263 => 167 | 264 => 168 | 206 => 169 | 240 => 170 | 241 => 171 | 276 => 183 | 277 => 184 | n => n, fun | 9 => 9 | 3 => 3 | 4 => 4 | 20 => 20 | 0 => 0 | 46 => 217 | 109 => 218 | 5 => 5 | 72 => 223 | 76 => 188 | 51 => 243 | 146 => 244 | 53 => 22 | 148 => 246 | 70 => 221 | 37 => 77 | 75 => 38 | 127 => 248 | 164 => 141 | 80 => 76 | n => n, fun | n => n⟩
theorem Tryz.lays105 : Go.Proofs.Lays.n105 Tryz.prog Tryz.lays105_ren := {
  mixed := by kernel_rfl
  f99 := Tryz.func130.trans (congrArg some (by kernel_rfl))
  f105 := Tryz.func79.trans (congrArg some (by kernel_rfl))
  f165 := Tryz.func131.trans (congrArg some (by kernel_rfl))
  f166 := Tryz.func132.trans (congrArg some (by kernel_rfl))
  f169 := Tryz.func134.trans (congrArg some (by kernel_rfl))
  f170 := Tryz.func133.trans (congrArg some (by kernel_rfl))
  f206 := Tryz.func169.trans (congrArg some (by kernel_rfl))
  f212 := Tryz.func129.trans (congrArg some (by kernel_rfl))
  f240 := Tryz.func170.trans (congrArg some (by kernel_rfl))
  f241 := Tryz.func171.trans (congrArg some (by kernel_rfl))
  f263 := Tryz.func167.trans (congrArg some (by kernel_rfl))
  f264 := Tryz.func168.trans (congrArg some (by kernel_rfl))
  f276 := Tryz.func183.trans (congrArg some (by kernel_rfl))
  f277 := Tryz.func184.trans (congrArg some (by kernel_rfl))
  t0 := Tryz.underlying0
  a0 := Tryz.isAgg0
  z0 := Tryz.sizeOf0
  v0 := Tryz.zeroValue0
  t3 := Tryz.underlying3
  a3 := Tryz.isAgg3
  z3 := Tryz.sizeOf3
  v3 := Tryz.zeroValue3
  t4 := Tryz.underlying4
  a4 := Tryz.isAgg4
  z4 := Tryz.sizeOf4
  v4 := Tryz.zeroValue4
  t5 := Tryz.underlying5
  a5 := Tryz.isAgg5
  z5 := Tryz.sizeOf5
  v5 := Tryz.zeroValue5
  t9 := Tryz.underlying9
  a9 := Tryz.isAgg9
  z9 := Tryz.sizeOf9
  v9 := Tryz.zeroValue9
  t20 := Tryz.underlying20
  a20 := Tryz.isAgg20
  z20 := Tryz.sizeOf20
  v20 := Tryz.zeroValue20
  t37 := Tryz.underlying77
  a37 := Tryz.isAgg77
  z37 := Tryz.sizeOf77
  v37 := Tryz.zeroValue77
  t46 := Tryz.underlying217
  a46 := Tryz.isAgg217
  z46 := Tryz.sizeOf217
  v46 := Tryz.zeroValue217
  t51 := Tryz.underlying243
  a51 := Tryz.isAgg243
  z51 := Tryz.sizeOf243
  v51 := Tryz.zeroValue243
  t53 := Tryz.underlying22
  a53 := Tryz.isAgg22
  z53 := Tryz.sizeOf22
  v53 := Tryz.zeroValue22
  t70 := Tryz.underlying221
  a70 := Tryz.isAgg221
  z70 := Tryz.sizeOf221
  v70 := Tryz.zeroValue221
  t72 := Tryz.underlying223
  a72 := Tryz.isAgg223
  z72 := Tryz.sizeOf223
  v72 := Tryz.zeroValue223
  t75 := Tryz.underlying38
  a75 := Tryz.isAgg38
  z75 := Tryz.sizeOf38
  v75 := Tryz.zeroValue38
  t76 := Tryz.underlying188
  a76 := Tryz.isAgg188
  z76 := Tryz.sizeOf188
  v76 := Tryz.zeroValue188
  t109 := Tryz.underlying218
  a109 := Tryz.isAgg218
  z109 := Tryz.sizeOf218
  v109 := Tryz.zeroValue218
  t127 := Tryz.underlying248
  a127 := Tryz.isAgg248
  z127 := Tryz.sizeOf248
  v127 := Tryz.zeroValue248
  t146 := Tryz.underlying244
  a146 := Tryz.isAgg244
  z146 := Tryz.sizeOf244
  v146 := Tryz.zeroValue244
  t148 := Tryz.underlying246
  a148 := Tryz.isAgg246
  z148 := Tryz.sizeOf246
  v148 := Tryz.zeroValue246
  t164 := Tryz.underlying141
  a164 := Tryz.isAgg141
  z164 := Tryz.sizeOf141
  v164 := Tryz.zeroValue141 }
theorem Tryz.Builder_Extra_105 : Builder.Extra Tryz.prog Tryz.lays105_ren := {
  sizeBuilder := by kernel_rfl
  liesBuilder := by kernel_rfl
  t5 := Tryz.underlying5
  a5 := Tryz.isAgg5
  z5 := Tryz.sizeOf5
  v5 := Tryz.zeroValue5
  infoByte := by kernel_rfl
  cellsByte := by kernel_rfl
  sizeByte := by kernel_rfl
  neB5 := by decide }
open Go.RowKit Go.Lib in
open Go.RowKit Go.Lib in
open Go.RowKit Go.Lib in
open Go.RowKit Go.Lib in
open Go.RowKit Go.Lib in
open Go.RowKit Go.Lib in
open Go.RowKit Go.Lib in
/-- **strings.Repeat: count ≥ 0, the result within one allocation: count copies of s.** (LAID: no walk: one application.) -/
theorem Tryz.strings_Repeat (s : ByteArray) (c : Nat) (w : World) (hc : c ≤ 9223372036854775807) (hlen : s.size * c ≤ 140737488355328) :
    Calls Tryz.prog 79 #[.string s, .int .i64 c] w fun e w' => e = .returned (.string ⟨(Lib.repeatL s.data.toList c).toArray⟩) ∧ Below w.heap.size w w' := Any.strings_Repeat Tryz.lays105 Tryz.Builder_Extra_105 s c w hc hlen
end Go.Proofs
