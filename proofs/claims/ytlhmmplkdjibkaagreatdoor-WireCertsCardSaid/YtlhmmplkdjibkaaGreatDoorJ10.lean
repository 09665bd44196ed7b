/- row: a map is read. -/
import Derived.Test.YtlhmmplkdjibkaaGreatDoorJ9
import Derived.Deep.RegionHeld3
namespace Go.Proofs.YtlhmmplkdjibkaaGreatDoor
open Go.RowKit

/-- what the walk of a row keeps in sight -/
structure RowW {ρ : Type} (w0 : World) (rb t : Nat) (S : (List UInt8)) (Rp : ρ → World → Prop) (a : Nat) (p : ρ) (wr : World) : Prop where
  d : Duo rb t w0 wr
  g : GlobU wr
  p : Rp p wr
  r : RQ rb S a 10240 wr
  a : a ≤ S.length
theorem RowW.next {ρ : Type} {w0 : World} {rb t : Nat} {S : (List UInt8)} {Rp : ρ → World → Prop} {a : Nat} {p : ρ} {wr wx : World} (hst : ∀ p w w', Rp p w → Only rb w w' → Rp p w') (h : RowW w0 rb t S Rp a p wr) (hb : Below wr.heap.size wr wx) : RowW w0 rb t S Rp a p wx :=
  ⟨h.d.trans (Duo.below hb), h.g.next hb, hst _ _ _ h.p (Only.of_below hb), ⟨(hb.block _ (lit_lt h.r.r)).trans h.r.r, h.r.m⟩, h.a⟩

theorem ErrV.nil {lo : Nat} {c a : Int} {v : Value} {w : World} (h : ErrV lo c a v w) (hc : c = 0) : v = .nilIface := by
  rw [ErrV, if_pos hc] at h
  exact h
/-- what a take answers, in the codecs' words -/
theorem took4 (S : (List UInt8)) (a s : Nat) (ha : a ≤ S.length) (P : TP) (hP : takeP (S.drop a) 10240 s = P) : (takeE s (S.drop a) a = if P.c = 0 then .ok ((P.n, P.t), P.m) else .error (P.c, a)) ∧ Fits (S.drop a) s P ∧ (a + P.m ≤ S.length) := by
  subst hP
  have h := takeP_fits (S.drop a) 10240 s
  refine ⟨rfl, h, ?_⟩
  have := h.ml
  rw [List.length_drop] at this
  omega

/-- fields told by their keys -/
theorem find_self {ρ : Type} : ∀ (xs : List (RW ρ)), (xs.map (·.g)).Pairwise (fun f g => f.key ≠ g.key) → (∀ x ∈ xs, x.f.key = x.g.key) → ∀ x ∈ xs, xs.find? (fun y => y.f.key == x.f.key) = some x
  | [], _, _, x, hx => by cases hx
  | y :: xs, hp, hk, x, hx => by
    rw [List.map_cons, List.pairwise_cons] at hp
    rcases List.mem_cons.1 hx with rfl | hx
    · simp
    · rw [List.find?_cons_of_neg]
      · exact find_self xs hp.2 (fun z hz => hk z (by simp [hz])) x hx
      · rw [hk y (by simp), hk x (by simp [hx])]
        simpa using hp.1 x.g (List.mem_map_of_mem hx)
def thR {ρ : Type} (xs : List (RW ρ)) (p : ρ) (f : FV) : Bool := match xs.find? (fun y => y.f.key == f.key) with
  | some x => (x.g.view p).isSome
  | none => false

theorem any_congr {α : Type _} {p q : α → Bool} : ∀ {l : List α}, (∀ x ∈ l, p x = q x) → l.any p = l.any q
  | [], _ => rfl
  | x :: l, h => by rw [List.any_cons, List.any_cons, h x (by simp), any_congr fun y hy => h y (by simp [hy])]
theorem There.of_read {ρ : Type} {w0 : World} {rb t : Nat} {S : (List UInt8)} {Rp : ρ → World → Prop} {xs : List (RW ρ)} {zero : ρ} {p : ρ} {a : Nat} (hst : ∀ p w w', Rp p w → Only rb w w' → Rp p w') (F : Flds (xs.map (·.g)) zero) (hF : ∀ x ∈ xs, ReadF w0 rb t S Rp x) (x : RW ρ) (hx : x ∈ xs) : There x.f (thR xs p x.f) (RowW w0 rb t S Rp a p) :=
  ⟨(hF x hx).tE, fun w hw => by
    rw [thR, find_self xs F.keys (fun y hy => (hF y hy).key) x hx]
    exact (hF x hx).there w p hw.d hw.p, fun _ _ h hb => h.next hst hb⟩

set_option maxRecDepth 100000 in
set_option maxHeartbeats 4000000 in
theorem wrow_any {ρ : Type} (w0 : World) (rb t fb o cap : Nat) (S : (List UInt8)) (Rp : ρ → World → Prop) (hst : ∀ p w w', Rp p w → Only rb w w' → Rp p w') (xs : List (RW ρ)) (hF : ∀ x ∈ xs, ReadF w0 rb t S Rp x) (zero : ρ) (F : Flds (xs.map (·.g)) zero) (a : Nat) (w : World)
    (hrt : 4 ≤ rb ∧ 4 ≤ t) (hS : S.length ≤ 1000000) (hn : xs.length ≤ 8 ∧ xs.length ≤ cap) (hr : RowB fb o (xs.map (·.f)) w0) (hfb : fb < w0.heap.size) (hfn : fb ≠ rb ∧ fb ≠ t) (htw : t < w0.heap.size) (hW : RowW w0 rb t S Rp a zero w) :
    Calls Tryz.prog 60 #[.agg #[.pointer (some ⟨rb, 0, none⟩)], .slice (some ⟨fb, o, none⟩) xs.length cap] w
      (Read rb t S Rp a w.heap.size w (mapG (xs.map (·.g)) zero (fun p => !xs.any fun x => x.f.needed && !(x.g.view p).isSome) (S.drop a) a)) := by
  rw [mapG_eq]
  have HW1 := Lib.hid (hW.next hst (by0 w (.cells #[.pointer (some ⟨rb, 0, none⟩)] 124)))
  have HN := Lib.hid (heap_alloc_new w (.cells #[.pointer (some ⟨rb, 0, none⟩)] 124))
  have HB1 := Lib.hid (by0 w (.cells #[.pointer (some ⟨rb, 0, none⟩)] 124))
  have ha := hW.a
  obtain ⟨P, hP⟩ : ∃ P, takeP (S.drop a) 10240 4 = P := ⟨_, rfl⟩
  obtain ⟨hT, hfit, haP⟩ := took4 S a 4 ha P hP
  have HM0 := qmap_any rb S a 10240 _ HW1.out.r HW1.out.g hS HW1.out.a
  rw [hP] at HM0
  have HM := Lib.hid HM0
  rw [hT]
  have hrw : rb < w.heap.size := lit_lt hW.r.r
  generalize hw1 : w.alloc (.cells #[.pointer (some ⟨rb, 0, none⟩)] 124) = w1 at *
  have HWA := Lib.hid hw1
  obtain ⟨N, hN⟩ : ∃ N, w.heap.size = N := ⟨_, rfl⟩
  rw [hN] at HN
  have n0 := (lit_cell HN.out 0).trans rfl
  clear hw1 HM0
  by_cases hc : P.c = 0
  · rw [if_pos hc]
    simp only
    have HFF := Lib.hid F
    have HF := Lib.hid hF
    have HR := Lib.hid hr
    have HSL := Lib.hid hS
    have HRT := Lib.hid hrt
    have HFB := Lib.hid (And.intro hfb hfn)
    have HST := Lib.hid hst
    have hnl := hfit.n16 (by decide)
    obtain ⟨n, hn0⟩ : ∃ n, P.n = n := ⟨_, rfl⟩
    rw [hn0] at HM hnl
    have n1 : (n : Int) < 65536 := by omega
    obtain ⟨fin, hfin⟩ : ∃ fin, (fun p => !xs.any fun x => x.f.needed && !(x.g.view p).isSome) = fin := ⟨_, rfl⟩
    have HFIN := Lib.hid hfin
    rw [hfin, hn0, List.drop_drop]
    obtain ⟨RES, hres⟩ : ∃ RES, finR fin (bump P.m (pairsG n (xs.map (·.g)) zero (S.drop (a + P.m)) (a + P.m))) = RES := ⟨_, rfl⟩
    rw [hres]
    have HRES := Lib.hid hres
    have HNN := Lib.hid hN
    have HHP := Lib.hid haP
    have HWD := Lib.hid hW.d
    obtain ⟨PM, hpm⟩ : ∃ PM, P.m = PM := ⟨_, rfl⟩
    rw [hpm] at HM HRES HHP
    rw [hc] at HM
    have HXN := Lib.hid hn
    clear hc hT hW hN F hF hr hS hrt hfb hfn hst hfit hn0 hfin hres haP hpm hP hn
    go_enter Tryz.func60, Tryz.ntmps60
    go_upto_region 1 with fail
    rw [HWA.out, HNN.out]
    go_upto_region 3 with (first | (go_at_call 112; refine HM.out.mono ?_; rintro e w2 ⟨v, rfl, hv, hr2, ho2⟩; obtain rfl := hv.nil rfl; have HO2 := Lib.hid ho2; have HW2 : Hid (RowW w0 rb t S Rp (a + PM) zero w2) := Lib.hid ⟨HW1.out.d.trans (Duo.only ho2), HW1.out.g.duo (Duo.only (x := t) ho2) HRT.out.1 HRT.out.2, HST.out _ _ _ HW1.out.p ho2, hr2, HHP.out⟩; clear hr2 ho2) | (go_at_call 111; refine (sureI_ok _ w2).mono ?_; rintro e w2 ⟨rfl, rfl⟩))
    have HTW := Lib.hid htw
    have HNL : Hid (rb < N ∧ t < N ∧ w0.heap.size ≤ N) := Lib.hid (by have := HWD.out.size; have h2 := HNN.out; omega)
    have HN2 : Hid (w2.heap[N]? = some (.cells #[.pointer (some ⟨rb, 0, none⟩)] 124 (0, 0))) := Lib.hid ((HO2.out.block N (lit_lt HN.out) (by have := HNL.out; omega)).trans HN.out)
    have HD2 : Hid (Duo rb t w w2) := Lib.hid ((Duo.below HB1.out).trans (Duo.only HO2.out))
    clear n0 ha htw hrw
    go_loopw [4, 14] (fun l i wr => ∃ j m : Nat, ∃ L : List (RW ρ), ∃ o' cp d : Nat, ∃ p : ρ, j + m = n ∧ L.length ≤ cp ∧ L.length ≤ 8 ∧ l = .slice (some ⟨fb, o', none⟩) L.length cp ∧ i = .int .i64 (j : Int) ∧ Hid (RowB fb o' (L.map (·.f)) w0) ∧ Hid (∃ pre, xs = pre ++ L) ∧ Hid (∀ x ∈ L, x.g.view p = none) ∧ Hid (RowW w0 rb t S Rp (a + d) p wr) ∧ Hid (RES = finR fin (bump d (pairsG m (L.map (·.g)) p (S.drop (a + d)) (a + d)))) ∧ Hid (wr.heap[N]? = some (.cells #[.pointer (some ⟨rb, 0, none⟩)] 124 (0, 0))) ∧ Hid (Duo rb t w wr)) (fun _ i _ => (n : Int).toNat - (intOf i).toNat)
    case atStart => exact ⟨0, n, xs, o, cap, PM, zero, by omega, HXN.out.2, HXN.out.1, rfl, rfl, HR, Lib.hid ⟨[], rfl⟩, Lib.hid (fun x hx => HFF.out.none x.g (List.mem_map_of_mem hx)), HW2, Lib.hid HRES.out.symm, HN2, HD2⟩
    case round =>
      obtain ⟨j, m, L, o', cp, d, p, hjm, hLc, hL8, rfl, rfl, HRL, HMEM, HV, HW, HE, HNr, HD⟩ := hrel
      have HMM := Lib.hid (show ∀ x ∈ L, x ∈ xs from fun x hx => by obtain ⟨pre, h⟩ := HMEM.out; rw [h]; simp [hx])
      have nr0 := (lit_cell HNr.out 0).trans rfl
      by_cases hm0 : m = 0
      · subst hm0
        obtain rfl : j = n := by omega
        have hl : ¬ (j : Int) < (j : Int) := by omega
        have HPL : Pred 119 #[] (fun f => f.needed && !thR xs p f) (xs.map (·.f)) (RowW w0 rb t S Rp (a + d) p) := ⟨fun _ _ => by kernel_rfl, fun f hf w hw => by
          obtain ⟨x, hx, rfl⟩ := List.mem_map.1 hf
          exact lacking_any x.f (thR xs p x.f) _ (There.of_read HST.out HFF.out HF.out x hx) w hw, fun _ _ h hb => h.next HST.out hb⟩
        have hC0 := containsFunc_any HPL fb o cap wr (HR.out.next (HW.out.d.block fb HFB.out.1 HFB.out.2.1 HFB.out.2.2)) (Nat.lt_of_lt_of_le HFB.out.1 HW.out.d.size) (by rw [List.length_map]; have := HXN.out; omega) HW.out
        rw [List.length_map] at hC0
        have hfp : (xs.map (·.f)).any (fun f => f.needed && !thR xs p f) = !fin p := by
          rw [← HFIN.out, List.any_map, Bool.not_not]
          refine any_congr fun x hx => ?_
          show (x.f.needed && !thR xs p x.f) = _
          rw [thR, find_self xs HFF.out.keys (fun y hy => (HF.out y hy).key) x hx]
        rw [hfp] at hC0
        have HCF := Lib.hid hC0
        have HE2 : Hid (RES = if fin p then .ok (p, d) else .error (5, 0)) := Lib.hid (by rw [HE.out]; rfl)
        clear hC0 hfp HPL
        generalize fin p = q at *
        cases q with
        | true =>
          go_wp2_with (first | (go_at_call 118; refine HCF.out.mono ?_; rintro e w4 ⟨rfl, hb4⟩) | (go_at_call 117; refine (must_yes 5 w4).mono ?_; rintro e w4 ⟨rfl, rfl⟩))
          refine bodyPost_end (results_none rfl _ _ _) rfl ?_
          rw [HE2.out]
          have h := HW.out.next HST.out hb4
          exact ⟨rfl, h.p, h.r, h.a, HD.out.trans (Duo.below hb4)⟩
        | false =>
          go_wp2_with (first | (go_at_call 118; refine HCF.out.mono ?_; rintro e w4 ⟨rfl, hb4⟩) | (go_at_call 117; refine (must_no 5 w4).mono ?_; rintro e w5 ⟨⟨f, hf, rfl, hf0, hf1⟩, hb5⟩))
          refine ⟨rfl, ?_⟩
          rw [HE2.out]
          have hd := HD.out.trans ((Duo.below hb4).trans (Duo.below (A := rb) (x := t) hb5))
          exact ⟨by decide, ⟨f, by have := HD.out.size; have := hb4.size; omega, rfl, hf0, hf1⟩, hd, p, ((HW.out.next HST.out hb4).next HST.out hb5).p⟩
      · obtain ⟨m', rfl⟩ : ∃ m', m = m' + 1 := ⟨m - 1, by omega⟩
        have hl : (j : Int) < (n : Int) := by omega
        have i0 : (0 : Int) ≤ (j : Int) := by omega
        obtain ⟨P2, hP2⟩ : ∃ P2, takeP (S.drop (a + d)) 10240 2 = P2 := ⟨_, rfl⟩
        obtain ⟨hT2, _, haP2⟩ := took4 S (a + d) 2 HW.out.a P2 hP2
        have hS0 := qstr_any rb S (a + d) 10240 wr HW.out.r HW.out.g HSL.out HW.out.a
        rw [hP2] at hS0
        have HSTR := Lib.hid hS0
        have hE2 := HE.out
        rw [pairsG_step, hT2] at hE2
        clear hS0 hP2 hT2 hm0
        by_cases hc2 : P2.c = 0
        · rw [if_pos hc2] at hE2
          simp only at hE2
          rw [hc2] at HSTR
          obtain ⟨T, hPT⟩ : ∃ T, P2.t = T := ⟨_, rfl⟩
          obtain ⟨k1, hk1⟩ : ∃ k1, P2.m = k1 := ⟨_, rfl⟩
          rw [hPT, hk1, List.drop_drop] at hE2
          rw [hk1] at haP2
          rw [hPT, hk1] at HSTR
          have HLE := Lib.hid haP2
          have HE2 := Lib.hid hE2
          clear hE2 hPT hk1 hc2 haP2
          go_upto_region 5 with (first | (go_at_call 114; refine HSTR.out.mono ?_; rintro e w5 ⟨v, rfl, hv, hr5, ho5⟩; obtain rfl := hv.nil rfl; have HO5 := Lib.hid ho5; have HW5 : Hid (RowW w0 rb t S Rp (a + d + k1) p w5) := Lib.hid ⟨HW.out.d.trans (Duo.only ho5), HW.out.g.duo (Duo.only (x := t) ho5) HRT.out.1 HRT.out.2, HST.out _ _ _ HW.out.p ho5, hr5, HLE.out⟩; clear hr5 ho5) | (go_at_call 113; refine (sureS_ok _ w5).mono ?_; rintro e w5 ⟨rfl, rfl⟩))
          have HK6 := Lib.hid (heap_alloc_new w5 (.cells #[.string ⟨T.toArray⟩] 9))
          have HW6 := Lib.hid (HW5.out.next HST.out (by0 w5 (.cells #[.string ⟨T.toArray⟩] 9)))
          have HD6 : Hid (Duo rb t w (w5.alloc (.cells #[.string ⟨T.toArray⟩] 9))) := Lib.hid ((HD.out.trans (Duo.only HO5.out)).trans (Duo.below (by0 w5 _)))
          have HN6 : Hid ((w5.alloc (.cells #[.string ⟨T.toArray⟩] 9)).heap[N]? = some (.cells #[.pointer (some ⟨rb, 0, none⟩)] 124 (0, 0))) := Lib.hid (lit_old _ ((HO5.out.block N (lit_lt HNr.out) (by have := HNL.out; omega)).trans HNr.out))
          generalize w5.alloc (.cells #[.string ⟨T.toArray⟩] 9) = w6 at *
          generalize w5.heap.size = K at *
          have HPK : Hid (Pred 116 #[.pointer (some ⟨K, 0, none⟩)] (fun f => [f.key] == T) (L.map (·.f)) (fun w => w.cell? ⟨K, 0, none⟩ = some (.string ⟨T.toArray⟩))) := Lib.hid ⟨fun _ _ => by kernel_rfl, fun f _ w hw => row1_any f K T w hw, fun w w' h hb => (hb.cell (p := ⟨K, 0, none⟩) (World.block_lt_of_cell? w _ h)).trans h⟩
          have hR6 := HRL.out.next (HW6.out.d.block fb HFB.out.1 HFB.out.2.1 HFB.out.2.2)
          have hI0 := indexFunc_any HPK.out fb o' cp w6 hR6 (Nat.lt_of_lt_of_le HFB.out.1 HW6.out.d.size) (by rw [List.length_map]; omega) ((lit_cell HK6.out 0).trans rfl)
          rw [List.length_map] at hI0
          have hmf : ∀ (fn : Fn) (first cap : Array Value) (w : World), (Instr.makeFunc fn first cap).run Tryz.prog w = .ok (.func fn first cap) w := fun _ _ _ _ => rfl
          have hkey : ∀ x ∈ L, x.f.key = x.g.key := fun x hx => (HF.out x (HMM.out x hx)).key
          cases hsk : seekR T L with
          | none =>
            rw [seekR_none T L 0 hkey hsk] at hI0
            have HI := Lib.hid hI0
            have HE3 : Hid (RES = .error (5, 0)) := Lib.hid (by rw [HE2.out, hsk]; rfl)
            clear hI0 hsk hkey hR6
            go_wp2_with (first | (go_at_call 115; refine HI.out.mono ?_; rintro e w7 ⟨rfl, hb7⟩) | (go_at_call 117; refine (must_no 5 w7).mono ?_; rintro e w8 ⟨⟨f, hf, rfl, hf0, hf1⟩, hb8⟩))
            refine ⟨rfl, ?_⟩
            rw [HE3.out]
            have hd := HD6.out.trans ((Duo.below hb7).trans (Duo.below (A := rb) (x := t) hb8))
            exact ⟨by decide, ⟨f, by have := HD6.out.size; have := hb7.size; omega, rfl, hf0, hf1⟩, hd, p, ((HW6.out.next HST.out hb7).next HST.out hb8).p⟩
          | some xr =>
            obtain ⟨x, r⟩ := xr
            obtain ⟨k, hk1, hk2, hk3⟩ := seekR_some T L 0 x r hkey hsk
            rw [Nat.zero_add] at hk1
            rw [hk1] at hI0
            have HI := Lib.hid hI0
            have hxL : x ∈ L := List.mem_of_getElem? hk2
            have HRF := Lib.hid (HF.out x (HMM.out x hxL))
            have HVX := Lib.hid (HV.out x hxL)
            have hE3 := HE2.out
            rw [hsk] at hE3
            simp only at hE3
            rw [(HRF.out.get (S.drop (a + d + k1)) (a + d + k1))] at hE3
            have HE3 := Lib.hid hE3
            have hkl : k < L.length := (List.getElem?_eq_some_iff.1 hk2).1
            have q0 : (0 : Int) ≤ (k : Int) := by omega
            have HK2 := Lib.hid hk2
            have HK3 := Lib.hid hk3
            have hd0 : decide ((0 : Int) ≤ (k : Int)) = true := by simp
            clear hI0 hsk hkey hR6 hE3 hk1 hk2 hk3
            go_upto_region 7 with (first | (go_at_call 115; refine HI.out.mono ?_; rintro e w7 ⟨rfl, hb7⟩) | (go_at_call 117; refine (must_yes 5 w7).mono ?_; rintro e w7 ⟨rfl, rfl⟩))
            have HW7 := Lib.hid (HW6.out.next HST.out hb7)
            have HD7 : Hid (Duo rb t w w7) := Lib.hid (HD6.out.trans (Duo.below hb7))
            have HN7 : Hid (w7.heap[N]? = some (.cells #[.pointer (some ⟨rb, 0, none⟩)] 124 (0, 0))) := Lib.hid ((hb7.block N (lit_lt HN6.out)).trans HN6.out)
            have n7 := (lit_cell HN7.out 0).trans rfl
            obtain ⟨_, _, _, _, c4⟩ := (HRL.out.next (HW7.out.d.block fb HFB.out.1 HFB.out.2.1 HFB.out.2.2)).cells k x.f (by rw [List.getElem?_map, HK2.out]; rfl)
            clear hb7 nr0
            refine wp_region_head 5 (.slice (some ⟨fb, o', none⟩) L.length cp) (by kernel_rfl) (by kernel_rfl) (fun _ _ _ h => h) (Or.inl ⟨by rfl, fun _ => rfl⟩) ?_
            simp only [List.take_succ_cons, List.take_zero, Act.put, List.setIfInBounds_toArray, List.set_cons_succ, List.set_cons_zero]
            repeat still_step
            refine wpStill_nil ?_
            change wpAny _ _ _ _ (0 + 1) _ _ _
            have HW8 := Lib.hid (HW7.out.next HST.out (Below.refl _ _).drew)
            have HD8 : Hid (Duo rb t w w7.drew) := Lib.hid (HD7.out.trans (Duo.below (Below.refl _ _).drew))
            have HN8 : Hid (w7.drew.heap[N]? = some (.cells #[.pointer (some ⟨rb, 0, none⟩)] 124 (0, 0))) := Lib.hid HN7.out
            generalize w7.drew = w8 at *
            have HRD := Lib.hid (HRF.out.read w8 p (a + d + k1) HW8.out.d HW8.out.g HW8.out.p HVX.out HW8.out.r HW8.out.a)
            have hent := HRF.out.rE
            simp only [Ent] at hent
            refine wpAny_ready (rs := [6]) (by kernel_rfl) (by simp) (AllReady.cons (o := ⟨some 34, .call ⟨.value (.tmp 32), #[.tmp 33], #[124]⟩, _, _, _, none⟩) rfl (fun K hK => ?_) AllReady.nil)
            have HK := Lib.hid hK
            clear hK n7 c4
            go_simp
            refine HRD.out.mono ?_
            rintro e w9 h9
            have hE3 := HE3.out
            cases hrd : x.rd (S.drop (a + d + k1)) (a + d + k1) with
            | error f =>
              obtain ⟨c, b⟩ := f
              rw [hrd] at hE3
              rw [RW.step, hrd] at h9
              obtain ⟨hc, ⟨f, hf, rfl, hf0, hf1⟩, ho, hq⟩ := h9
              have HE4 : Hid (RES = .error (c, b)) := Lib.hid hE3
              clear hE3 hrd HK
              refine ⟨rfl, ?_⟩
              rw [HE4.out]
              exact ⟨hc, ⟨f, by have := HD8.out.size; omega, rfl, hf0, hf1⟩, HD8.out.trans ho, hq⟩
            | ok q =>
              obtain ⟨vo, k2⟩ := q
              cases vo with
              | none =>
                rw [hrd] at hE3
                rw [RW.step, hrd] at h9
                obtain ⟨rfl, hp9, hr9, ha9, ho9⟩ := h9
                have HE4 : Hid (RES = .error (5, 0)) := Lib.hid hE3
                have HT0 := HRF.out.there w9 p (HW8.out.d.trans ho9) hp9
                rw [HVX.out] at HT0
                have HTH := Lib.hid HT0
                have hent := HRF.out.tE
                simp only [Ent] at hent
                obtain ⟨_, _, c2, _, _⟩ := (HRL.out.next ((HW8.out.d.trans ho9).block fb HFB.out.1 HFB.out.2.1 HFB.out.2.2)).cells k x.f (by rw [List.getElem?_map, HK2.out]; rfl)
                have HD9 : Hid (Duo rb t w w9) := Lib.hid (HD8.out.trans ho9)
                have HP9 := Lib.hid hp9
                clear hE3 hrd HT0 hp9 hr9 ha9 ho9
                refine HK.out _ _ ?_
                clear HK K
                try simp only [Act.put, List.setIfInBounds_toArray, List.set_cons_succ, List.set_cons_zero]
                refine wpAny_done (by kernel_rfl) ?_ _
                go_wp2
                refine HTH.out.mono ?_
                rintro e w10 ⟨rfl, hb10⟩
                go_wp2_with (go_at_call 117; refine (must_no 5 w10).mono ?_; rintro e w11 ⟨⟨f, hf, rfl, hf0, hf1⟩, hb11⟩)
                refine ⟨rfl, ?_⟩
                rw [HE4.out]
                have hd := HD9.out.trans ((Duo.below hb10).trans (Duo.below (A := rb) (x := t) hb11))
                exact ⟨by decide, ⟨f, by have := HD9.out.size; have := hb10.size; omega, rfl, hf0, hf1⟩, hd, p, HST.out _ _ _ (HST.out _ _ _ HP9.out (Only.of_below hb10)) (Only.of_below hb11)⟩
              | some v =>
                rw [hrd] at hE3
                rw [RW.step, hrd] at h9
                obtain ⟨rfl, hp9, hr9, ha9, ho9⟩ := h9
                have hgk : x.g.C.get (S.drop (a + d + k1)) (a + d + k1) = .ok (v, k2) := by rw [HRF.out.get, hrd]
                have hok := (x.g.C.back _ _ _ _ hgk).1
                have hxg : x.g ∈ xs.map (·.g) := List.mem_map_of_mem (HMM.out x hxL)
                have hseen := HFF.out.seen x.g hxg p v hok
                have HE4 : Hid (RES = finR fin (bump (d + (k1 + k2)) (pairsG m' (r.map (·.g)) (x.g.set p v) (S.drop (a + (d + (k1 + k2)))) (a + (d + (k1 + k2)))))) := Lib.hid (by
                  rw [hE3]
                  simp only [bump_bump, List.drop_drop]
                  rw [show a + d + (k1 + k2) = a + (d + (k1 + k2)) by omega])
                have HT0 := HRF.out.there w9 (x.g.set p v) (HW8.out.d.trans ho9) hp9
                rw [hseen] at HT0
                have HTH := Lib.hid HT0
                have hent := HRF.out.tE
                simp only [Ent] at hent
                obtain ⟨_, _, c2, _, _⟩ := (HRL.out.next ((HW8.out.d.trans ho9).block fb HFB.out.1 HFB.out.2.1 HFB.out.2.2)).cells k x.f (by rw [List.getElem?_map, HK2.out]; rfl)
                have HD9 : Hid (Duo rb t w w9) := Lib.hid (HD8.out.trans ho9)
                have HN9 : Hid (w9.heap[N]? = some (.cells #[.pointer (some ⟨rb, 0, none⟩)] 124 (0, 0))) := Lib.hid ((ho9.block N (lit_lt HN8.out) (by have := HNL.out; omega) (by have := HNL.out; omega)).trans HN8.out)
                have HW9 : Hid (RowW w0 rb t S Rp (a + (d + (k1 + k2))) (x.g.set p v) w9) := Lib.hid (by
                  rw [show a + (d + (k1 + k2)) = a + d + k1 + k2 by omega]
                  exact ⟨HW8.out.d.trans ho9, HW8.out.g.duo ho9 HRT.out.1 HRT.out.2, hp9, hr9, ha9⟩)
                have HRL9 : Hid (RowB fb (o' + (k + 1) * 5) (r.map (·.f)) w0) := Lib.hid (by
                  have := HRL.out.tail (k + 1)
                  rw [← List.map_drop, HK3.out] at this
                  exact this)
                have hLs : L = L.take k ++ x :: r := by
                  rw [← HK3.out]
                  have h1 := List.take_append_drop k L
                  rw [List.drop_eq_getElem_cons hkl] at h1
                  rw [← (List.getElem?_eq_some_iff.1 HK2.out).2]
                  exact h1.symm
                have HMEM9 : Hid (∃ pre, xs = pre ++ r) := Lib.hid (by
                  obtain ⟨pre, h⟩ := HMEM.out
                  exact ⟨pre ++ (L.take k ++ [x]), by rw [h, List.append_assoc, List.append_assoc, List.singleton_append, ← hLs]⟩)
                have HV9 : Hid (∀ y ∈ r, y.g.view (x.g.set p v) = none) := Lib.hid fun y hy => by
                  have hyL : y ∈ L := by rw [hLs]; simp [hy]
                  obtain ⟨pre, h⟩ := HMEM.out
                  have hpw := HFF.out.keys
                  rw [h, hLs, List.map_append, List.map_append, List.map_cons] at hpw
                  have hne := (List.pairwise_cons.1 (List.pairwise_append.1 (List.pairwise_append.1 hpw).2.1).2.1).1 y.g (List.mem_map_of_mem hy)
                  rw [HFF.out.other x.g hxg y.g (List.mem_map_of_mem (HMM.out y hyL)) hne p v]
                  exact HV.out y hyL
                have hrl : r.length = L.length - (k + 1) := by rw [← HK3.out, List.length_drop]
                clear hE3 hrd HT0 hp9 hr9 ha9 ho9 hgk hok hseen hLs hxg
                refine HK.out _ _ ?_
                clear HK K
                try simp only [Act.put, List.setIfInBounds_toArray, List.set_cons_succ, List.set_cons_zero]
                refine wpAny_done (by kernel_rfl) ?_ _
                go_wp2
                refine HTH.out.mono ?_
                rintro e w10 ⟨rfl, hb10⟩
                have HW10 := Lib.hid (HW9.out.next HST.out hb10)
                have HD10 : Hid (Duo rb t w w10) := Lib.hid (HD9.out.trans (Duo.below hb10))
                have HN10 : Hid (w10.heap[N]? = some (.cells #[.pointer (some ⟨rb, 0, none⟩)] 124 (0, 0))) := Lib.hid ((hb10.block N (lit_lt HN9.out)).trans HN9.out)
                clear hb10 c2
                go_wp2_with (go_at_call 117; refine (must_yes 5 w10).mono ?_; rintro e w10 ⟨rfl, rfl⟩)
                by_cases hcp : cp = k + 1
                · have hr0 : r = [] := List.eq_nil_of_length_eq_zero (by omega)
                  refine ⟨⟨j + 1, m', r, o', cp - (k + 1), d + (k1 + k2), x.g.set p v, by omega, by omega, by omega, by rw [if_pos hcp, hrl], by go_num, Lib.hid (by rw [hr0]; intro i f hf; cases hf), HMEM9, HV9, HW10, HE4, HN10, HD10⟩, ?_⟩
                  simp [intOf] <;> omega
                · refine ⟨⟨j + 1, m', r, o' + (k + 1) * 5, cp - (k + 1), d + (k1 + k2), x.g.set p v, by omega, by omega, by omega, by rw [if_neg hcp, hrl], by go_num, HRL9, HMEM9, HV9, HW10, HE4, HN10, HD10⟩, ?_⟩
                  simp [intOf] <;> omega
        · rw [if_neg hc2] at hE2
          have HE2 : Hid (RES = .error (P2.c, a + d)) := Lib.hid hE2
          have HC2 := Lib.hid hc2
          clear hE2 hc2
          go_wp2_with (first | (go_at_call 114; refine HSTR.out.mono ?_; rintro e w5 ⟨v, rfl, hv, hr5, ho5⟩; obtain ⟨f, rfl, hup⟩ := hv.shape (by have := HC2.out; omega)) | (go_at_call 113; refine (sureS_bad _ f w5).mono ?_; rintro e w5 ⟨rfl, rfl⟩))
          refine ⟨rfl, ?_⟩
          rw [HE2.out]
          exact ⟨HC2.out, hup.mono HD.out.size, HD.out.trans (Duo.only ho5), p, HST.out _ _ _ HW.out.p ho5⟩
  · rw [if_neg hc]
    have HCN := Lib.hid hc
    have HNN := Lib.hid hN
    clear hc hT hW hN
    go_enter Tryz.func60, Tryz.ntmps60
    go_upto_region 1 with fail
    rw [HWA.out, HNN.out]
    go_wp2_with (first | (go_at_call 112; refine HM.out.mono ?_; rintro e w2 ⟨v, rfl, hv, hr2, ho2⟩; obtain ⟨f, rfl, hup⟩ := hv.shape (by have := HCN.out; omega)) | (go_at_call 111; refine (sureI_bad _ f w2).mono ?_; rintro e w3 ⟨rfl, rfl⟩))
    exact ⟨rfl, HCN.out, hup.mono HB1.out.size, (Duo.below HB1.out).trans (Duo.only ho2), zero, hst _ _ _ HW1.out.p ho2⟩
end Go.Proofs.YtlhmmplkdjibkaaGreatDoor
/- A reader's number and digest; the closures of number, digest, yes that ask and read. -/
namespace Go.Proofs.YtlhmmplkdjibkaaGreatDoor
open Go.RowKit

/-- what is wanted of a world in which a reader reads -/
structure RdS (rb : Nat) (S : (List UInt8)) (a : Nat) (w : World) : Prop where
  r : RQ rb S a 10240 w
  g : GlobU w
  s : S.length ≤ 1000000
  a : a ≤ S.length
theorem RdS.next {rb : Nat} {S : (List UInt8)} {a : Nat} {w w' : World} (h : RdS rb S a w) (hb : Below w.heap.size w w') : RdS rb S a w' := ⟨⟨(hb.block _ (lit_lt h.r.r)).trans h.r.r, h.r.m⟩, h.g.next hb, h.s, h.a⟩
theorem RdS.lt {rb : Nat} {S : (List UInt8)} {a : Nat} {w : World} (h : RdS rb S a w) : rb < w.heap.size := lit_lt h.r.r

set_option maxRecDepth 100000 in
theorem rnumber_ok (rb : Nat) (S : (List UInt8)) (a : Nat) (P : TP) (w : World) (h : RdS rb S a w) (hP : takeP (S.drop a) 10240 0 = P) (hc : P.c = 0) :
    Calls Tryz.prog 100 #[.agg #[.pointer (some ⟨rb, 0, none⟩)]] w fun e w' => e = .returned (.int .u64 (P.n : Int)) ∧ RQ rb S (a + P.m) 10240 w' ∧ Only rb w w' := by
  have h1 := h.next (by0 w (.cells #[.pointer (some ⟨rb, 0, none⟩)] 124))
  have h0 := reader_c.num rb S a 10240 _ h1.r h1.g h1.s h1.a
  rw [hP] at h0
  have HB := Lib.hid (Only.of_below (b := rb) (by0 w (.cells #[.pointer (some ⟨rb, 0, none⟩)] 124)))
  have HN := Lib.hid h0
  have HC := Lib.hid hc
  clear h h1 h0 hP hc
  go_enter Tryz.func100, Tryz.ntmps100
  go_wp2_with (first | (go_at_call 153; refine HN.out.mono ?_; rintro e w2 ⟨v, rfl, hv, hr2, ho2⟩; obtain rfl := hv.nil (by rw [HC.out]; rfl)) | (go_at_call 152; refine (sureN_ok _ w2).mono ?_; rintro e w2 ⟨rfl, rfl⟩))
  go_ret
  exact ⟨rfl, hr2, HB.out.trans ho2⟩
set_option maxRecDepth 100000 in
theorem rnumber_bad (rb : Nat) (S : (List UInt8)) (a : Nat) (P : TP) (w : World) (h : RdS rb S a w) (hP : takeP (S.drop a) 10240 0 = P) (hc : P.c ≠ 0) :
    Calls Tryz.prog 100 #[.agg #[.pointer (some ⟨rb, 0, none⟩)]] w fun e w' => Up w.heap.size P.c a e w' ∧ Only rb w w' := by
  have h1 := h.next (by0 w (.cells #[.pointer (some ⟨rb, 0, none⟩)] 124))
  have h0 := reader_c.num rb S a 10240 _ h1.r h1.g h1.s h1.a
  rw [hP] at h0
  have HB := Lib.hid (Only.of_below (b := rb) (by0 w (.cells #[.pointer (some ⟨rb, 0, none⟩)] 124)))
  have HN := Lib.hid h0
  have HC := Lib.hid hc
  clear h h1 h0 hP hc
  go_enter Tryz.func100, Tryz.ntmps100
  go_wp2_with (first | (go_at_call 153; refine HN.out.mono ?_; rintro e w2 ⟨v, rfl, hv, hr2, ho2⟩; obtain ⟨f, rfl, hup⟩ := hv.shape (by have := HC.out; omega)) | (go_at_call 152; refine (sureN_bad _ f w2).mono ?_; rintro e w2 ⟨rfl, rfl⟩))
  exact ⟨rfl, hup.mono HB.out.size, HB.out.trans ho2⟩
set_option maxRecDepth 100000 in
theorem rdigest_ok (rb : Nat) (S : (List UInt8)) (a : Nat) (P : TP) (w : World) (h : RdS rb S a w) (hP : takeP (S.drop a) 10240 1 = P) (hc : P.c = 0) (hl : P.t.length = 32) :
    Calls Tryz.prog 93 #[.agg #[.pointer (some ⟨rb, 0, none⟩)]] w fun e w' => e = .returned (.string ⟨P.t.toArray⟩) ∧ RQ rb S (a + P.m) 10240 w' ∧ Only rb w w' := by
  have h1 := h.next (by0 w (.cells #[.pointer (some ⟨rb, 0, none⟩)] 124))
  have h0 := reader_c.bin rb S a 10240 _ h1.r h1.g h1.s h1.a
  rw [hP] at h0
  have HB := Lib.hid (Only.of_below (b := rb) (by0 w (.cells #[.pointer (some ⟨rb, 0, none⟩)] 124)))
  have HN := Lib.hid h0
  have HC := Lib.hid hc
  have l0 : (P.t.length : Int) = 32 := by omega
  clear h h1 h0 hP hc hl
  go_enter Tryz.func93, Tryz.ntmps93
  go_wp2_with (first | (go_at_call 147; refine HN.out.mono ?_; rintro e w2 ⟨v, rfl, hv, hr2, ho2⟩; obtain rfl := hv.nil (by rw [HC.out]; rfl)) | (go_at_call 113; refine (sureS_ok _ w2).mono ?_; rintro e w2 ⟨rfl, rfl⟩) | (go_at_call 117; refine (must_yes 5 w2).mono ?_; rintro e w2 ⟨rfl, rfl⟩))
  go_ret
  exact ⟨rfl, hr2, HB.out.trans ho2⟩
set_option maxRecDepth 100000 in
theorem rdigest_bad (rb : Nat) (S : (List UInt8)) (a : Nat) (P : TP) (w : World) (h : RdS rb S a w) (hP : takeP (S.drop a) 10240 1 = P) (hc : P.c ≠ 0) :
    Calls Tryz.prog 93 #[.agg #[.pointer (some ⟨rb, 0, none⟩)]] w fun e w' => Up w.heap.size P.c a e w' ∧ Only rb w w' := by
  have h1 := h.next (by0 w (.cells #[.pointer (some ⟨rb, 0, none⟩)] 124))
  have h0 := reader_c.bin rb S a 10240 _ h1.r h1.g h1.s h1.a
  rw [hP] at h0
  have HB := Lib.hid (Only.of_below (b := rb) (by0 w (.cells #[.pointer (some ⟨rb, 0, none⟩)] 124)))
  have HN := Lib.hid h0
  have HC := Lib.hid hc
  clear h h1 h0 hP hc
  go_enter Tryz.func93, Tryz.ntmps93
  go_wp2_with (first | (go_at_call 147; refine HN.out.mono ?_; rintro e w2 ⟨v, rfl, hv, hr2, ho2⟩; obtain ⟨f, rfl, hup⟩ := hv.shape (by have := HC.out; omega)) | (go_at_call 113; refine (sureS_bad _ f w2).mono ?_; rintro e w2 ⟨rfl, rfl⟩))
  exact ⟨rfl, hup.mono HB.out.size, HB.out.trans ho2⟩
set_option maxRecDepth 100000 in
theorem rdigest_len (rb : Nat) (S : (List UInt8)) (a : Nat) (P : TP) (w : World) (h : RdS rb S a w) (hP : takeP (S.drop a) 10240 1 = P) (hc : P.c = 0) (hl : P.t.length ≠ 32) :
    Calls Tryz.prog 93 #[.agg #[.pointer (some ⟨rb, 0, none⟩)]] w fun e w' => Up w.heap.size 5 0 e w' ∧ Only rb w w' := by
  have h1 := h.next (by0 w (.cells #[.pointer (some ⟨rb, 0, none⟩)] 124))
  have h0 := reader_c.bin rb S a 10240 _ h1.r h1.g h1.s h1.a
  rw [hP] at h0
  have HB := Lib.hid (Only.of_below (b := rb) (by0 w (.cells #[.pointer (some ⟨rb, 0, none⟩)] 124)))
  have HN := Lib.hid h0
  have HC := Lib.hid hc
  have l0 : ((P.t.length : Int) == 32) = false := by rw [beq_eq_false_iff_ne]; omega
  clear h h1 h0 hP hc hl
  go_enter Tryz.func93, Tryz.ntmps93
  go_wp2_with (first | (go_at_call 147; refine HN.out.mono ?_; rintro e w2 ⟨v, rfl, hv, hr2, ho2⟩; obtain rfl := hv.nil (by rw [HC.out]; rfl)) | (go_at_call 113; refine (sureS_ok _ w2).mono ?_; rintro e w2 ⟨rfl, rfl⟩) | (go_at_call 117; refine (must_no 5 w2).mono ?_; rintro e w3 ⟨⟨f, hf, rfl, hf0, hf1⟩, hb3⟩))
  exact ⟨rfl, ⟨f, by have := HB.out.size; have := ho2.size; omega, rfl, hf0, hf1⟩, (HB.out.trans ho2).trans (Only.of_below hb3)⟩

/-- a closure's variable that is a pointer -/
abbrev Cap (kb t o : Nat) (w : World) : Prop := w.cell? ⟨kb, 0, none⟩ = some (.pointer (some ⟨t, o, none⟩))

set_option maxRecDepth 100000 in
theorem number1_any (kb t o : Nat) (n : Nat) (w : World) (hk : Cap kb t o w) (h : w.cell? ⟨t, o, none⟩ = some (.int .u64 (n : Int))) :
    Calls Tryz.prog 105 #[.pointer (some ⟨kb, 0, none⟩)] w fun e w' => e = .returned (.bool (n != 0)) ∧ Below w.heap.size w w' := by
  by_cases hn : n = 0
  · subst hn
    go_enter Tryz.func105, Tryz.ntmps105
    go_wp2
    go_ret
    exact ⟨rfl, Below.refl _ _⟩
  · have HE := Lib.hid (show (n != 0) = true by simpa using hn)
    have i0 : ((n : Int) != 0) = true := by simpa using hn
    rw [HE.out]
    clear hn
    go_enter Tryz.func105, Tryz.ntmps105
    go_wp2
    go_ret
    exact ⟨rfl, Below.refl _ _⟩
set_option maxRecDepth 100000 in
theorem digest1_any (kb t o : Nat) (s : (List UInt8)) (w : World) (hk : Cap kb t o w) (h : w.cell? ⟨t, o, none⟩ = some (.string ⟨s.toArray⟩)) :
    Calls Tryz.prog 95 #[.pointer (some ⟨kb, 0, none⟩)] w fun e w' => e = .returned (.bool (!s.isEmpty)) ∧ Below w.heap.size w w' := by
  go_enter Tryz.func95, Tryz.ntmps95
  go_wp2
  go_ret
  exact ⟨rfl, Below.refl _ _⟩
set_option maxRecDepth 100000 in
theorem yes1_any (kb t o : Nat) (b : Bool) (w : World) (hk : Cap kb t o w) (h : w.cell? ⟨t, o, none⟩ = some (.bool b)) :
    Calls Tryz.prog 172 #[.pointer (some ⟨kb, 0, none⟩)] w fun e w' => e = .returned (.bool b) ∧ Below w.heap.size w w' := by
  go_enter Tryz.func172, Tryz.ntmps172
  go_wp2
  go_ret
  exact ⟨rfl, Below.refl _ _⟩
end Go.Proofs.YtlhmmplkdjibkaaGreatDoor
/- The closures of number, digest, yes that read. -/
namespace Go.Proofs.YtlhmmplkdjibkaaGreatDoor
open Go.RowKit

/-- what a closure that reads into a cell keeps in sight -/
structure Into (kb t o rb N : Nat) (x : Value) (w : World) : Prop where
  k : Cap kb t o w
  n : w.cell? ⟨N, 0, none⟩ = some (.pointer (some ⟨rb, 0, none⟩))
  c : w.cell? ⟨t, o, none⟩ = some x
  f : w.frozen? ⟨t, o, none⟩ = false
  l : kb < w.heap.size ∧ t < w.heap.size ∧ N < w.heap.size
theorem Into.only {kb t o rb N : Nat} {x : Value} {w w' : World} (h : Into kb t o rb N x w) (ho : Only rb w w') (hk : kb ≠ rb) (ht : t ≠ rb) (hN : N ≠ rb) : Into kb t o rb N x w' :=
  ⟨(World.cell?_of_block (a := ⟨kb, 0, none⟩) (ho.block kb h.l.1 hk)).trans h.k, (World.cell?_of_block (a := ⟨N, 0, none⟩) (ho.block N h.l.2.2 hN)).trans h.n, (World.cell?_of_block (a := ⟨t, o, none⟩) (ho.block t h.l.2.1 ht)).trans h.c,
    (World.frozen?_of_block (a := ⟨t, o, none⟩) (ho.block t h.l.2.1 ht)).trans h.f, by have := ho.size; have := h.l; omega⟩
theorem Into.set {kb t o rb N : Nat} {x : Value} {w : World} (h : Into kb t o rb N x w) (v : Value) (hk : kb ≠ t) (hN : N ≠ t) : Into kb t o rb N v (w.setCell ⟨t, o, none⟩ v) :=
  ⟨(World.cell?_of_block (a := ⟨kb, 0, none⟩) (lit_far v hk)).trans h.k, (World.cell?_of_block (a := ⟨N, 0, none⟩) (lit_far v hN)).trans h.n, World.cell?_setCell_same _ _ _ h.c, by rw [World.frozen?_setCell]; exact h.f, by have := h.l; simp [World.setCell]; omega⟩
theorem Into.start {kb t o rb : Nat} {x : Value} {w : World} (hk : Cap kb t o w) (hc : w.cell? ⟨t, o, none⟩ = some x) (hf : w.frozen? ⟨t, o, none⟩ = false) :
    Into kb t o rb w.heap.size x (w.alloc (.cells #[.pointer (some ⟨rb, 0, none⟩)] 124)).drew := by
  have h1 := World.block_lt_of_cell? w _ hk
  have h2 := World.block_lt_of_cell? w _ hc
  have h1 : kb < w.heap.size := h1
  have h2 : t < w.heap.size := h2
  have e1 := heap_alloc_old w (.cells #[.pointer (some ⟨rb, 0, none⟩)] 124) h1
  have e2 := heap_alloc_old w (.cells #[.pointer (some ⟨rb, 0, none⟩)] 124) h2
  refine ⟨(World.cell?_of_block (a := ⟨kb, 0, none⟩) (w := w) e1).trans hk, (lit_cell (heap_alloc_new w (.cells #[.pointer (some ⟨rb, 0, none⟩)] 124)) 0).trans rfl, (World.cell?_of_block (a := ⟨t, o, none⟩) (w := w) e2).trans hc, (World.frozen?_of_block (a := ⟨t, o, none⟩) (w := w) e2).trans hf, ?_⟩
  show kb < (w.alloc _).heap.size ∧ t < (w.alloc _).heap.size ∧ w.heap.size < (w.alloc _).heap.size
  rw [World.size_alloc]
  omega

/-- what such a closure answers: it has read, and stored what it read -/
def Stored (rb t o : Nat) (S : (List UInt8)) (a k : Nat) (v : Value) (w : World) (e : Ending) (w' : World) : Prop :=
  e = .returned (.tuple #[]) ∧ ∃ w1, w' = w1.setCell ⟨t, o, none⟩ v ∧ RQ rb S (a + k) 10240 w1 ∧ Only rb w w1

set_option maxRecDepth 100000 in
set_option maxHeartbeats 1000000 in
theorem number3_ok (rb kb t o : Nat) (S : (List UInt8)) (a : Nat) (P : TP) (x : Int) (w : World) (h : RdS rb S a w) (hP : takeP (S.drop a) 10240 0 = P) (hc : P.c = 0) (hk : Cap kb t o w) (hx : w.cell? ⟨t, o, none⟩ = some (.int .u64 x)) (hf : w.frozen? ⟨t, o, none⟩ = false) (hne : kb ≠ rb ∧ t ≠ rb ∧ kb ≠ t) :
    Calls Tryz.prog 107 #[.agg #[.pointer (some ⟨rb, 0, none⟩)], .pointer (some ⟨kb, 0, none⟩)] w (Stored rb t o S a P.m (.int .u64 (P.n : Int)) w) := by
  have HI := Lib.hid (Into.start (rb := rb) hk hx hf)
  have hB : Below w.heap.size w (w.alloc (.cells #[.pointer (some ⟨rb, 0, none⟩)] 124)).drew := (by0 w _).drew
  have HN := Lib.hid (rnumber_ok rb S a P _ (h.next hB) hP hc)
  have HB := Lib.hid (Only.of_below (b := rb) hB)
  have HRB := Lib.hid (show w.heap.size ≠ rb from by have := h.lt; omega)
  have HNE := Lib.hid hne
  have HNT := Lib.hid (show w.heap.size ≠ t from by have : t < w.heap.size := World.block_lt_of_cell? w _ hx; omega)
  clear h hP hc hk hx hf hB hne
  go_enter Tryz.func107, Tryz.ntmps107
  go_upto_region 1 with fail
  go_region_held3 (fun w' => w'.cell? ⟨kb, 0, none⟩ = some (.pointer (some ⟨t, o, none⟩)) ∧ w'.cell? ⟨w.heap.size, 0, none⟩ = some (.pointer (some ⟨rb, 0, none⟩)) ∧ ∃ y, Into kb t o rb w.heap.size y w')
    (first | (with_reducible exact ⟨HI.out.k, HI.out.n, _, HI.out⟩) | (with_reducible exact ⟨hI1.k, hI1.n, _, hI1⟩) | (with_reducible exact ⟨(hI1.set _ HNE.out.2.2 HNT.out).k, (hI1.set _ HNE.out.2.2 HNT.out).n, _, hI1.set _ HNE.out.2.2 HNT.out⟩))
    (first
      | (go_at_call 100; with_reducible refine HN.out.mono ?_; rintro e w1 ⟨rfl, hr1, ho1⟩; have hI1 := HI.out.only ho1 HNE.out.1 HNE.out.2.1 HRB.out; have c1 := hI1.c; have f1 := hI1.f))
  exact bodyPost_end (results_none rfl _ _ _) rfl ⟨rfl, w1, rfl, hr1, HB.out.trans ho1⟩
set_option maxRecDepth 100000 in
set_option maxHeartbeats 1000000 in
theorem digest3_ok (rb kb t o : Nat) (S : (List UInt8)) (a : Nat) (P : TP) (x : Value) (w : World) (h : RdS rb S a w) (hP : takeP (S.drop a) 10240 1 = P) (hc : P.c = 0) (hl : P.t.length = 32) (hk : Cap kb t o w) (hx : w.cell? ⟨t, o, none⟩ = some x) (hf : w.frozen? ⟨t, o, none⟩ = false) (hne : kb ≠ rb ∧ t ≠ rb ∧ kb ≠ t) :
    Calls Tryz.prog 97 #[.agg #[.pointer (some ⟨rb, 0, none⟩)], .pointer (some ⟨kb, 0, none⟩)] w (Stored rb t o S a P.m (.string ⟨P.t.toArray⟩) w) := by
  have HI := Lib.hid (Into.start (rb := rb) hk hx hf)
  have hB : Below w.heap.size w (w.alloc (.cells #[.pointer (some ⟨rb, 0, none⟩)] 124)).drew := (by0 w _).drew
  have HN := Lib.hid (rdigest_ok rb S a P _ (h.next hB) hP hc hl)
  have HB := Lib.hid (Only.of_below (b := rb) hB)
  have HRB := Lib.hid (show w.heap.size ≠ rb from by have := h.lt; omega)
  have HNE := Lib.hid hne
  have HNT := Lib.hid (show w.heap.size ≠ t from by have : t < w.heap.size := World.block_lt_of_cell? w _ hx; omega)
  clear h hP hc hl hk hx hf hB hne
  go_enter Tryz.func97, Tryz.ntmps97
  go_upto_region 1 with fail
  go_region_held3 (fun w' => w'.cell? ⟨kb, 0, none⟩ = some (.pointer (some ⟨t, o, none⟩)) ∧ w'.cell? ⟨w.heap.size, 0, none⟩ = some (.pointer (some ⟨rb, 0, none⟩)) ∧ ∃ y, Into kb t o rb w.heap.size y w')
    (first | (with_reducible exact ⟨HI.out.k, HI.out.n, _, HI.out⟩) | (with_reducible exact ⟨hI1.k, hI1.n, _, hI1⟩) | (with_reducible exact ⟨(hI1.set _ HNE.out.2.2 HNT.out).k, (hI1.set _ HNE.out.2.2 HNT.out).n, _, hI1.set _ HNE.out.2.2 HNT.out⟩))
    (first
      | (go_at_call 93; with_reducible refine HN.out.mono ?_; rintro e w1 ⟨rfl, hr1, ho1⟩; have hI1 := HI.out.only ho1 HNE.out.1 HNE.out.2.1 HRB.out; have c1 := hI1.c; have f1 := hI1.f))
  exact bodyPost_end (results_none rfl _ _ _) rfl ⟨rfl, w1, rfl, hr1, HB.out.trans ho1⟩
set_option maxRecDepth 100000 in
set_option maxHeartbeats 1000000 in
theorem yes3_ok (rb kb t o : Nat) (S : (List UInt8)) (a : Nat) (P : TP) (x : Value) (w : World) (h : RdS rb S a w) (hP : takeP (S.drop a) 10240 0 = P) (hc : P.c = 0) (hk : Cap kb t o w) (hx : w.cell? ⟨t, o, none⟩ = some x) (hf : w.frozen? ⟨t, o, none⟩ = false) (hne : kb ≠ rb ∧ t ≠ rb ∧ kb ≠ t) :
    Calls Tryz.prog 174 #[.agg #[.pointer (some ⟨rb, 0, none⟩)], .pointer (some ⟨kb, 0, none⟩)] w (Stored rb t o S a P.m (.bool (P.n == 1)) w) := by
  have HI := Lib.hid (Into.start (rb := rb) hk hx hf)
  have hB : Below w.heap.size w (w.alloc (.cells #[.pointer (some ⟨rb, 0, none⟩)] 124)).drew := (by0 w _).drew
  have HN := Lib.hid (rnumber_ok rb S a P _ (h.next hB) hP hc)
  have HB := Lib.hid (Only.of_below (b := rb) hB)
  have HRB := Lib.hid (show w.heap.size ≠ rb from by have := h.lt; omega)
  have HNE := Lib.hid hne
  have HNT := Lib.hid (show w.heap.size ≠ t from by have : t < w.heap.size := World.block_lt_of_cell? w _ hx; omega)
  clear h hP hc hk hx hf hB hne
  have hd : ((P.n : Int) == 1) = (P.n == 1) := by
    by_cases h : P.n = 1
    · simp [h]
    · rw [beq_eq_false_iff_ne.2 h, beq_eq_false_iff_ne]; omega
  generalize hq : (P.n == 1) = q at *
  go_enter Tryz.func174, Tryz.ntmps174
  go_upto_region 1 with fail
  go_region_held3 (fun w' => w'.cell? ⟨kb, 0, none⟩ = some (.pointer (some ⟨t, o, none⟩)) ∧ w'.cell? ⟨w.heap.size, 0, none⟩ = some (.pointer (some ⟨rb, 0, none⟩)) ∧ ∃ y, Into kb t o rb w.heap.size y w')
    (first | (with_reducible exact ⟨HI.out.k, HI.out.n, _, HI.out⟩) | (with_reducible exact ⟨hI1.k, hI1.n, _, hI1⟩) | (with_reducible exact ⟨(hI1.set _ HNE.out.2.2 HNT.out).k, (hI1.set _ HNE.out.2.2 HNT.out).n, _, hI1.set _ HNE.out.2.2 HNT.out⟩))
    (first
      | (go_at_call 100; with_reducible refine HN.out.mono ?_; rintro e w1 ⟨rfl, hr1, ho1⟩; have hI1 := HI.out.only ho1 HNE.out.1 HNE.out.2.1 HRB.out; have c1 := hI1.c; have f1 := hI1.f))
  exact bodyPost_end (results_none rfl _ _ _) rfl ⟨rfl, w1, rfl, hr1, HB.out.trans ho1⟩
set_option maxRecDepth 100000 in
set_option maxHeartbeats 1000000 in
theorem number3_bad (rb kb t o : Nat) (c b : Int) (x : Value) (w : World) (hN : ∀ w1, Below w.heap.size w w1 → Calls Tryz.prog 100 #[.agg #[.pointer (some ⟨rb, 0, none⟩)]] w1 fun e w' => Up w1.heap.size c b e w' ∧ Only rb w1 w') (hk : Cap kb t o w) (hx : w.cell? ⟨t, o, none⟩ = some x) (hf : w.frozen? ⟨t, o, none⟩ = false) :
    Calls Tryz.prog 107 #[.agg #[.pointer (some ⟨rb, 0, none⟩)], .pointer (some ⟨kb, 0, none⟩)] w fun e w' => Up w.heap.size c b e w' ∧ Only rb w w' := by
  have HI := Lib.hid (Into.start (rb := rb) hk hx hf)
  have hB : Below w.heap.size w (w.alloc (.cells #[.pointer (some ⟨rb, 0, none⟩)] 124)).drew := (by0 w _).drew
  have HN := Lib.hid (hN _ hB)
  have HB := Lib.hid (Only.of_below (b := rb) hB)
  have k1 := HI.out.k
  have n1 := HI.out.n
  clear hk hx hf hB hN
  go_enter Tryz.func107, Tryz.ntmps107
  go_upto_region 1 with fail
  refine wp_region_any (by kernel_rfl) ?_
  change wpAny _ _ _ _ _ _ _ (World.drew _)
  refine wpAny_ready (rs := [0, 1]) (by kernel_rfl) (by simp) (AllReady.cons (o := ⟨some 3, .load 117 (.tmp 1), _, _, _, none⟩) rfl (fun K hK => ?_) (AllReady.cons (o := ⟨some 4, .load 124 (.tmp 2), _, _, _, none⟩) rfl (fun K hK => ?_) AllReady.nil))
  · go_simp
    refine hK _ _ ?_
    clear hK K
    try simp only [Act.put, List.setIfInBounds_toArray, List.set_cons_succ, List.set_cons_zero]
    refine wpAny_ready (rs := [1]) (by kernel_rfl) (by simp) (AllReady.cons (o := ⟨some 4, .load 124 (.tmp 2), _, _, _, none⟩) rfl (fun K hK => ?_) AllReady.nil)
    · go_simp
      refine hK _ _ ?_
      clear hK K
      try simp only [Act.put, List.setIfInBounds_toArray, List.set_cons_succ, List.set_cons_zero]
      refine wpAny_ready (rs := [2]) (by kernel_rfl) (by simp) (AllReady.cons (o := ⟨some 5, .call ⟨.value (.func 100), #[.tmp 4], #[124]⟩, _, _, _, none⟩) rfl (fun K hK => ?_) AllReady.nil)
      · clear hK
        go_simp
        refine HN.out.mono ?_
        rintro e w1 ⟨⟨f, hf, rfl, hf0, hf1⟩, ho1⟩
        exact ⟨rfl, ⟨f, Nat.le_trans HB.out.size hf, rfl, hf0, hf1⟩, HB.out.trans ho1⟩
  · go_simp
    refine hK _ _ ?_
    clear hK K
    try simp only [Act.put, List.setIfInBounds_toArray, List.set_cons_succ, List.set_cons_zero]
    refine wpAny_ready (rs := [0, 2]) (by kernel_rfl) (by simp) (AllReady.cons (o := ⟨some 3, .load 117 (.tmp 1), _, _, _, none⟩) rfl (fun K hK => ?_) (AllReady.cons (o := ⟨some 5, .call ⟨.value (.func 100), #[.tmp 4], #[124]⟩, _, _, _, none⟩) rfl (fun K hK => ?_) AllReady.nil))
    · go_simp
      refine hK _ _ ?_
      clear hK K
      try simp only [Act.put, List.setIfInBounds_toArray, List.set_cons_succ, List.set_cons_zero]
      refine wpAny_ready (rs := [2]) (by kernel_rfl) (by simp) (AllReady.cons (o := ⟨some 5, .call ⟨.value (.func 100), #[.tmp 4], #[124]⟩, _, _, _, none⟩) rfl (fun K hK => ?_) AllReady.nil)
      · clear hK
        go_simp
        refine HN.out.mono ?_
        rintro e w1 ⟨⟨f, hf, rfl, hf0, hf1⟩, ho1⟩
        exact ⟨rfl, ⟨f, Nat.le_trans HB.out.size hf, rfl, hf0, hf1⟩, HB.out.trans ho1⟩
    · clear hK
      go_simp
      refine HN.out.mono ?_
      rintro e w1 ⟨⟨f, hf, rfl, hf0, hf1⟩, ho1⟩
      exact ⟨rfl, ⟨f, Nat.le_trans HB.out.size hf, rfl, hf0, hf1⟩, HB.out.trans ho1⟩
set_option maxRecDepth 100000 in
set_option maxHeartbeats 1000000 in
theorem digest3_bad (rb kb t o : Nat) (c b : Int) (x : Value) (w : World) (hN : ∀ w1, Below w.heap.size w w1 → Calls Tryz.prog 93 #[.agg #[.pointer (some ⟨rb, 0, none⟩)]] w1 fun e w' => Up w1.heap.size c b e w' ∧ Only rb w1 w') (hk : Cap kb t o w) (hx : w.cell? ⟨t, o, none⟩ = some x) (hf : w.frozen? ⟨t, o, none⟩ = false) :
    Calls Tryz.prog 97 #[.agg #[.pointer (some ⟨rb, 0, none⟩)], .pointer (some ⟨kb, 0, none⟩)] w fun e w' => Up w.heap.size c b e w' ∧ Only rb w w' := by
  have HI := Lib.hid (Into.start (rb := rb) hk hx hf)
  have hB : Below w.heap.size w (w.alloc (.cells #[.pointer (some ⟨rb, 0, none⟩)] 124)).drew := (by0 w _).drew
  have HN := Lib.hid (hN _ hB)
  have HB := Lib.hid (Only.of_below (b := rb) hB)
  have k1 := HI.out.k
  have n1 := HI.out.n
  clear hk hx hf hB hN
  go_enter Tryz.func97, Tryz.ntmps97
  go_upto_region 1 with fail
  refine wp_region_any (by kernel_rfl) ?_
  change wpAny _ _ _ _ _ _ _ (World.drew _)
  refine wpAny_ready (rs := [0, 1]) (by kernel_rfl) (by simp) (AllReady.cons (o := ⟨some 3, .load 110 (.tmp 1), _, _, _, none⟩) rfl (fun K hK => ?_) (AllReady.cons (o := ⟨some 4, .load 124 (.tmp 2), _, _, _, none⟩) rfl (fun K hK => ?_) AllReady.nil))
  · go_simp
    refine hK _ _ ?_
    clear hK K
    try simp only [Act.put, List.setIfInBounds_toArray, List.set_cons_succ, List.set_cons_zero]
    refine wpAny_ready (rs := [1]) (by kernel_rfl) (by simp) (AllReady.cons (o := ⟨some 4, .load 124 (.tmp 2), _, _, _, none⟩) rfl (fun K hK => ?_) AllReady.nil)
    · go_simp
      refine hK _ _ ?_
      clear hK K
      try simp only [Act.put, List.setIfInBounds_toArray, List.set_cons_succ, List.set_cons_zero]
      refine wpAny_ready (rs := [2]) (by kernel_rfl) (by simp) (AllReady.cons (o := ⟨some 5, .call ⟨.value (.func 93), #[.tmp 4], #[124]⟩, _, _, _, none⟩) rfl (fun K hK => ?_) AllReady.nil)
      · clear hK
        go_simp
        refine HN.out.mono ?_
        rintro e w1 ⟨⟨f, hf, rfl, hf0, hf1⟩, ho1⟩
        exact ⟨rfl, ⟨f, Nat.le_trans HB.out.size hf, rfl, hf0, hf1⟩, HB.out.trans ho1⟩
  · go_simp
    refine hK _ _ ?_
    clear hK K
    try simp only [Act.put, List.setIfInBounds_toArray, List.set_cons_succ, List.set_cons_zero]
    refine wpAny_ready (rs := [0, 2]) (by kernel_rfl) (by simp) (AllReady.cons (o := ⟨some 3, .load 110 (.tmp 1), _, _, _, none⟩) rfl (fun K hK => ?_) (AllReady.cons (o := ⟨some 5, .call ⟨.value (.func 93), #[.tmp 4], #[124]⟩, _, _, _, none⟩) rfl (fun K hK => ?_) AllReady.nil))
    · go_simp
      refine hK _ _ ?_
      clear hK K
      try simp only [Act.put, List.setIfInBounds_toArray, List.set_cons_succ, List.set_cons_zero]
      refine wpAny_ready (rs := [2]) (by kernel_rfl) (by simp) (AllReady.cons (o := ⟨some 5, .call ⟨.value (.func 93), #[.tmp 4], #[124]⟩, _, _, _, none⟩) rfl (fun K hK => ?_) AllReady.nil)
      · clear hK
        go_simp
        refine HN.out.mono ?_
        rintro e w1 ⟨⟨f, hf, rfl, hf0, hf1⟩, ho1⟩
        exact ⟨rfl, ⟨f, Nat.le_trans HB.out.size hf, rfl, hf0, hf1⟩, HB.out.trans ho1⟩
    · clear hK
      go_simp
      refine HN.out.mono ?_
      rintro e w1 ⟨⟨f, hf, rfl, hf0, hf1⟩, ho1⟩
      exact ⟨rfl, ⟨f, Nat.le_trans HB.out.size hf, rfl, hf0, hf1⟩, HB.out.trans ho1⟩
set_option maxRecDepth 100000 in
set_option maxHeartbeats 1000000 in
theorem yes3_bad (rb kb t o : Nat) (c b : Int) (x : Value) (w : World) (hN : ∀ w1, Below w.heap.size w w1 → Calls Tryz.prog 100 #[.agg #[.pointer (some ⟨rb, 0, none⟩)]] w1 fun e w' => Up w1.heap.size c b e w' ∧ Only rb w1 w') (hk : Cap kb t o w) (hx : w.cell? ⟨t, o, none⟩ = some x) (hf : w.frozen? ⟨t, o, none⟩ = false) :
    Calls Tryz.prog 174 #[.agg #[.pointer (some ⟨rb, 0, none⟩)], .pointer (some ⟨kb, 0, none⟩)] w fun e w' => Up w.heap.size c b e w' ∧ Only rb w w' := by
  have HI := Lib.hid (Into.start (rb := rb) hk hx hf)
  have hB : Below w.heap.size w (w.alloc (.cells #[.pointer (some ⟨rb, 0, none⟩)] 124)).drew := (by0 w _).drew
  have HN := Lib.hid (hN _ hB)
  have HB := Lib.hid (Only.of_below (b := rb) hB)
  have k1 := HI.out.k
  have n1 := HI.out.n
  clear hk hx hf hB hN
  go_enter Tryz.func174, Tryz.ntmps174
  go_upto_region 1 with fail
  refine wp_region_any (by kernel_rfl) ?_
  change wpAny _ _ _ _ _ _ _ (World.drew _)
  refine wpAny_ready (rs := [0, 1]) (by kernel_rfl) (by simp) (AllReady.cons (o := ⟨some 3, .load 230 (.tmp 1), _, _, _, none⟩) rfl (fun K hK => ?_) (AllReady.cons (o := ⟨some 4, .load 124 (.tmp 2), _, _, _, none⟩) rfl (fun K hK => ?_) AllReady.nil))
  · go_simp
    refine hK _ _ ?_
    clear hK K
    try simp only [Act.put, List.setIfInBounds_toArray, List.set_cons_succ, List.set_cons_zero]
    refine wpAny_ready (rs := [1]) (by kernel_rfl) (by simp) (AllReady.cons (o := ⟨some 4, .load 124 (.tmp 2), _, _, _, none⟩) rfl (fun K hK => ?_) AllReady.nil)
    · go_simp
      refine hK _ _ ?_
      clear hK K
      try simp only [Act.put, List.setIfInBounds_toArray, List.set_cons_succ, List.set_cons_zero]
      refine wpAny_ready (rs := [2]) (by kernel_rfl) (by simp) (AllReady.cons (o := ⟨some 5, .call ⟨.value (.func 100), #[.tmp 4], #[124]⟩, _, _, _, none⟩) rfl (fun K hK => ?_) AllReady.nil)
      · clear hK
        go_simp
        refine HN.out.mono ?_
        rintro e w1 ⟨⟨f, hf, rfl, hf0, hf1⟩, ho1⟩
        exact ⟨rfl, ⟨f, Nat.le_trans HB.out.size hf, rfl, hf0, hf1⟩, HB.out.trans ho1⟩
  · go_simp
    refine hK _ _ ?_
    clear hK K
    try simp only [Act.put, List.setIfInBounds_toArray, List.set_cons_succ, List.set_cons_zero]
    refine wpAny_ready (rs := [0, 2]) (by kernel_rfl) (by simp) (AllReady.cons (o := ⟨some 3, .load 230 (.tmp 1), _, _, _, none⟩) rfl (fun K hK => ?_) (AllReady.cons (o := ⟨some 5, .call ⟨.value (.func 100), #[.tmp 4], #[124]⟩, _, _, _, none⟩) rfl (fun K hK => ?_) AllReady.nil))
    · go_simp
      refine hK _ _ ?_
      clear hK K
      try simp only [Act.put, List.setIfInBounds_toArray, List.set_cons_succ, List.set_cons_zero]
      refine wpAny_ready (rs := [2]) (by kernel_rfl) (by simp) (AllReady.cons (o := ⟨some 5, .call ⟨.value (.func 100), #[.tmp 4], #[124]⟩, _, _, _, none⟩) rfl (fun K hK => ?_) AllReady.nil)
      · clear hK
        go_simp
        refine HN.out.mono ?_
        rintro e w1 ⟨⟨f, hf, rfl, hf0, hf1⟩, ho1⟩
        exact ⟨rfl, ⟨f, Nat.le_trans HB.out.size hf, rfl, hf0, hf1⟩, HB.out.trans ho1⟩
    · clear hK
      go_simp
      refine HN.out.mono ?_
      rintro e w1 ⟨⟨f, hf, rfl, hf0, hf1⟩, ho1⟩
      exact ⟨rfl, ⟨f, Nat.le_trans HB.out.size hf, rfl, hf0, hf1⟩, HB.out.trans ho1⟩
end Go.Proofs.YtlhmmplkdjibkaaGreatDoor
/- The closures of number, digest, yes that lay; their constructors. -/
namespace Go.Proofs.YtlhmmplkdjibkaaGreatDoor
open Go.RowKit

set_option maxRecDepth 100000 in
theorem layNumber_any (B b : Nat) (L : (List UInt8)) (n : Nat) (w : World) (hW : Pk.Wr B b L w) (hn : n < 18446744073709551616) (hL : L.length ≤ 9000000) :
    Calls Tryz.prog 99 #[.pointer (some ⟨b, 0, none⟩), .int .u64 (n : Int)] w (Lays B b L (numP n) true w) := by
  have HC := Lib.hid (Pk.num_any B b L n w hW (by omega) hn)
  clear hW hn hL
  go_enter Tryz.func99, Tryz.ntmps99
  go_wp2_with (go_at_call 151; refine HC.out.mono ?_; rintro e w2 ⟨rfl, hw2, hb2⟩)
  exact bodyPost_end (results_none rfl _ _ _) rfl (.inl ⟨rfl, rfl, hw2, hb2⟩)
set_option maxRecDepth 100000 in
theorem layDigest_any (B b : Nat) (L : (List UInt8)) (s : (List UInt8)) (w : World) (hW : Pk.Wr B b L w) (hL : L.length ≤ 9000000) :
    Calls Tryz.prog 92 #[.pointer (some ⟨b, 0, none⟩), .string ⟨s.toArray⟩] w (Lays B b L (binP s) (digB s) w) := by
  have HSZ := Lib.hid (show B ≤ w.heap.size from by have := hW.lt; have := hW.hB; omega)
  by_cases hs : s.length = 32
  · have HC0 := Pk.bin_any B b L s w hW (by omega) (by omega)
    rw [show laidP 1 0 s = (binP s, 0) by rw [laidP, if_neg (by decide), if_pos (by decide), if_neg (by omega)]; rfl] at HC0
    simp only [ne_eq, not_true_eq_false, false_implies, and_true] at HC0
    have HC := Lib.hid HC0
    have HE : Hid (digB s = true) := Lib.hid (by simp [digB, hs])
    rw [HE.out]
    have l0 : (s.length : Int) = 32 := by omega
    clear HC0 hW hL hs
    go_enter Tryz.func92, Tryz.ntmps92
    go_wp2_with (first | (go_at_call 117; refine (must_yes 2 w).mono ?_; rintro e w1 ⟨rfl, hw1⟩; subst hw1) | (go_at_call 146; refine HC.out.mono ?_; rintro e w2 ⟨rfl, hw2, hb2⟩))
    exact bodyPost_end (results_none rfl _ _ _) rfl (.inl ⟨rfl, rfl, hw2, hb2⟩)
  · have HE : Hid (digB s = false) := Lib.hid (by simp [digB, hs])
    rw [HE.out]
    have l0 : ((s.length : Int) == 32) = false := by rw [beq_eq_false_iff_ne]; omega
    clear hW hL hs
    go_enter Tryz.func92, Tryz.ntmps92
    go_wp2_with (go_at_call 117; refine (must_no 2 w).mono ?_; rintro e w1 ⟨⟨f, hf, rfl, hf0, hf1⟩, hb1⟩)
    exact ⟨rfl, .inr ⟨rfl, ⟨f, Nat.le_trans HSZ.out hf, rfl, hf0, hf1⟩, hb1.mono HSZ.out⟩⟩
set_option maxRecDepth 100000 in
theorem number2_any (B b : Nat) (L : (List UInt8)) (kb t o n : Nat) (w : World) (hW : Pk.Wr B b L w) (hk : Cap kb t o w) (h : w.cell? ⟨t, o, none⟩ = some (.int .u64 (n : Int))) (hn : n < 18446744073709551616) (hL : L.length + 9 ≤ 9000000) :
    Calls Tryz.prog 106 #[.pointer (some ⟨b, 0, none⟩), .pointer (some ⟨kb, 0, none⟩)] w (Lays B b L (numP n) true w) := by
  have HC := Lib.hid (layNumber_any B b L n w hW hn (by omega))
  clear hW hn hL
  go_enter Tryz.func106, Tryz.ntmps106
  go_wp2_with (go_at_call 99; refine HC.out.mono ?_; rintro e w2 (⟨_, rfl, hw2, hb2⟩ | ⟨h, _⟩); rotate_left; (cases h))
  exact bodyPost_end (results_none rfl _ _ _) rfl (.inl ⟨rfl, rfl, hw2, hb2⟩)
set_option maxRecDepth 100000 in
theorem yes2_any (B b : Nat) (L : (List UInt8)) (w : World) (hW : Pk.Wr B b L w) (hL : L.length + 9 ≤ 9000000) :
    Calls Tryz.prog 173 #[.pointer (some ⟨b, 0, none⟩)] w (Lays B b L (numP 1) true w) := by
  have HC := Lib.hid (layNumber_any B b L 1 w hW (by decide) (by omega))
  clear hW hL
  go_enter Tryz.func173, Tryz.ntmps173
  go_wp2_with (go_at_call 99; refine HC.out.mono ?_; rintro e w2 (⟨_, rfl, hw2, hb2⟩ | ⟨h, _⟩); rotate_left; (cases h))
  exact bodyPost_end (results_none rfl _ _ _) rfl (.inl ⟨rfl, rfl, hw2, hb2⟩)
set_option maxRecDepth 100000 in
theorem digest2_any (B b : Nat) (L : (List UInt8)) (kb t o : Nat) (s : (List UInt8)) (w : World) (hW : Pk.Wr B b L w) (hk : Cap kb t o w) (h : w.cell? ⟨t, o, none⟩ = some (.string ⟨s.toArray⟩)) (hL : L.length + 35 ≤ 9000000) :
    Calls Tryz.prog 96 #[.pointer (some ⟨b, 0, none⟩), .pointer (some ⟨kb, 0, none⟩)] w (Lays B b L (binP s) (digB s) w) := by
  have HC := Lib.hid (layDigest_any B b L s w hW (by omega))
  clear hW hL
  cases hd : digB s with
  | true =>
    rw [hd] at HC
    clear hd
    go_enter Tryz.func96, Tryz.ntmps96
    go_wp2_with (go_at_call 92; refine HC.out.mono ?_; rintro e w2 (⟨_, rfl, hw2, hb2⟩ | ⟨h, _⟩); rotate_left; (cases h))
    exact bodyPost_end (results_none rfl _ _ _) rfl (.inl ⟨rfl, rfl, hw2, hb2⟩)
  | false =>
    rw [hd] at HC
    clear hd
    go_enter Tryz.func96, Tryz.ntmps96
    go_wp2_with (go_at_call 92; refine HC.out.mono ?_; rintro e w2 (⟨h, _⟩ | ⟨_, ⟨f, hf, rfl, hf0, hf1⟩, hb1⟩); (cases h))
    exact ⟨rfl, .inr ⟨rfl, ⟨f, hf, rfl, hf0, hf1⟩, hb1⟩⟩
end Go.Proofs.YtlhmmplkdjibkaaGreatDoor
/- The constructors of fields: number, digest, yes, thing. -/
namespace Go.Proofs.YtlhmmplkdjibkaaGreatDoor
open Go.RowKit

abbrev ptrV (kb : Nat) : Value := .pointer (some ⟨kb, 0, none⟩)
abbrev numFV (c : UInt8) (kb : Nat) : FV := ⟨c, false, 105, #[ptrV kb], 106, #[ptrV kb], 107, #[ptrV kb]⟩
abbrev digFV (c : UInt8) (kb : Nat) : FV := ⟨c, true, 95, #[ptrV kb], 96, #[ptrV kb], 97, #[ptrV kb]⟩
abbrev yesFV (c : UInt8) (kb : Nat) : FV := ⟨c, false, 172, #[ptrV kb], 173, #[], 174, #[ptrV kb]⟩
abbrev thingFV (c : UInt8) (nd : Bool) (kb : Nat) : FV := ⟨c, nd, 157, #[ptrV kb], 159, #[ptrV kb], 160, #[ptrV kb]⟩

theorem five {w : World} {b : Nat} {f : FV} (h : w.heap[b]? = some (.cells f.cells.toArray 106 (0, 0))) : w.cell? ⟨b, 0, none⟩ = some (.string ⟨#[f.key]⟩) ∧ w.cell? ⟨b, 1, none⟩ = some (.bool f.needed) ∧ w.cell? ⟨b, 2, none⟩ = some (.func (.func f.tF) #[] f.tC) ∧ w.cell? ⟨b, 3, none⟩ = some (.func (.func f.lF) #[] f.lC) ∧ w.cell? ⟨b, 4, none⟩ = some (.func (.func f.rF) #[] f.rC) :=
  ⟨(lit_cell h 0).trans rfl, (lit_cell h 1).trans rfl, (lit_cell h 2).trans rfl, (lit_cell h 3).trans rfl, (lit_cell h 4).trans rfl⟩
/-- what a constructor answers: a field whose closures share a new block that holds a value -/
def Makes (lo : Nat) (fv : Nat → FV) (v : Value) (ty : TypeId) (w : World) (e : Ending) (w' : World) : Prop :=
  ∃ kb, lo ≤ kb ∧ e = .returned (fv kb).val ∧ w'.heap[kb]? = some (.cells #[v] ty (0, 0)) ∧ Below lo w w'

set_option maxRecDepth 100000 in
theorem number_mk (c : UInt8) (t o : Nat) (w : World) : Calls Tryz.prog 52 #[.string ⟨#[c]⟩, .pointer (some ⟨t, o, none⟩)] w (Makes w.heap.size (numFV c) (.pointer (some ⟨t, o, none⟩)) 117 w) := by
  have hmf : ∀ (fn : Fn) (first cap : Array Value) (w : World), (Instr.makeFunc fn first cap).run Tryz.prog w = .ok (.func fn first cap) w := fun _ _ _ _ => rfl
  go_enter Tryz.func52, Tryz.ntmps52
  go_wp2
  have hN : w.heap.size + 1 = (w.alloc (.cells #[.pointer (some ⟨t, o, none⟩)] 117)).heap.size := by simp
  have hW0 : ((w.alloc (.cells #[.pointer (some ⟨t, o, none⟩)] 117)).alloc (.cells (numFV c w.heap.size).cells.toArray 106)).heap[w.heap.size]? = some (.cells #[.pointer (some ⟨t, o, none⟩)] 117 (0, 0)) := lit_old _ (heap_alloc_new _ _)
  have hW1 : ((w.alloc (.cells #[.pointer (some ⟨t, o, none⟩)] 117)).alloc (.cells (numFV c w.heap.size).cells.toArray 106)).heap[w.heap.size + 1]? = some (.cells (numFV c w.heap.size).cells.toArray 106 (0, 0)) := by
    conv => lhs; arg 2; rw [hN]
    exact heap_alloc_new _ _
  have hW2 : Below w.heap.size w ((w.alloc (.cells #[.pointer (some ⟨t, o, none⟩)] 117)).alloc (.cells (numFV c w.heap.size).cells.toArray 106)) := (by0 w _).alloc (by simp) _
  change bodyPost _ _ _ _ _ ((w.alloc (.cells #[.pointer (some ⟨t, o, none⟩)] 117)).alloc (.cells (numFV c w.heap.size).cells.toArray 106))
  generalize (w.alloc (.cells #[.pointer (some ⟨t, o, none⟩)] 117)).alloc (.cells (numFV c w.heap.size).cells.toArray 106) = wf at *
  obtain ⟨z0, z1, z2, z3, z4⟩ := five hW1
  refine bodyPost_ret (v := (numFV c w.heap.size).val) (by simp [results, Tryz.results52, go_sem, z0, z1, z2, z3, z4]) rfl ⟨w.heap.size, Nat.le_refl _, rfl, hW0, hW2⟩
set_option maxRecDepth 100000 in
theorem yes_mk (c : UInt8) (t o : Nat) (w : World) : Calls Tryz.prog 136 #[.string ⟨#[c]⟩, .pointer (some ⟨t, o, none⟩)] w (Makes w.heap.size (yesFV c) (.pointer (some ⟨t, o, none⟩)) 230 w) := by
  have hmf : ∀ (fn : Fn) (first cap : Array Value) (w : World), (Instr.makeFunc fn first cap).run Tryz.prog w = .ok (.func fn first cap) w := fun _ _ _ _ => rfl
  go_enter Tryz.func136, Tryz.ntmps136
  go_wp2
  have hN : w.heap.size + 1 = (w.alloc (.cells #[.pointer (some ⟨t, o, none⟩)] 230)).heap.size := by simp
  have hW0 : ((w.alloc (.cells #[.pointer (some ⟨t, o, none⟩)] 230)).alloc (.cells (yesFV c w.heap.size).cells.toArray 106)).heap[w.heap.size]? = some (.cells #[.pointer (some ⟨t, o, none⟩)] 230 (0, 0)) := lit_old _ (heap_alloc_new _ _)
  have hW1 : ((w.alloc (.cells #[.pointer (some ⟨t, o, none⟩)] 230)).alloc (.cells (yesFV c w.heap.size).cells.toArray 106)).heap[w.heap.size + 1]? = some (.cells (yesFV c w.heap.size).cells.toArray 106 (0, 0)) := by
    conv => lhs; arg 2; rw [hN]
    exact heap_alloc_new _ _
  have hW2 : Below w.heap.size w ((w.alloc (.cells #[.pointer (some ⟨t, o, none⟩)] 230)).alloc (.cells (yesFV c w.heap.size).cells.toArray 106)) := (by0 w _).alloc (by simp) _
  change bodyPost _ _ _ _ _ ((w.alloc (.cells #[.pointer (some ⟨t, o, none⟩)] 230)).alloc (.cells (yesFV c w.heap.size).cells.toArray 106))
  generalize (w.alloc (.cells #[.pointer (some ⟨t, o, none⟩)] 230)).alloc (.cells (yesFV c w.heap.size).cells.toArray 106) = wf at *
  obtain ⟨z0, z1, z2, z3, z4⟩ := five hW1
  refine bodyPost_ret (v := (yesFV c w.heap.size).val) (by simp [results, Tryz.results136, go_sem, z0, z1, z2, z3, z4]) rfl ⟨w.heap.size, Nat.le_refl _, rfl, hW0, hW2⟩
set_option maxRecDepth 100000 in
theorem thing_mk (c : UInt8) (ao : Option Addr) (n cp : Nat) (w : World) : Calls Tryz.prog 104 #[.string ⟨#[c]⟩, .slice ao n cp] w (Makes w.heap.size (thingFV c false) (.slice ao n cp) 60 w) := by
  have hmf : ∀ (fn : Fn) (first cap : Array Value) (w : World), (Instr.makeFunc fn first cap).run Tryz.prog w = .ok (.func fn first cap) w := fun _ _ _ _ => rfl
  go_enter Tryz.func104, Tryz.ntmps104
  go_wp2
  have hN : w.heap.size + 1 = (w.alloc (.cells #[.slice ao n cp] 60)).heap.size := by simp
  have hW0 : ((w.alloc (.cells #[.slice ao n cp] 60)).alloc (.cells (thingFV c false w.heap.size).cells.toArray 106)).heap[w.heap.size]? = some (.cells #[.slice ao n cp] 60 (0, 0)) := lit_old _ (heap_alloc_new _ _)
  have hW1 : ((w.alloc (.cells #[.slice ao n cp] 60)).alloc (.cells (thingFV c false w.heap.size).cells.toArray 106)).heap[w.heap.size + 1]? = some (.cells (thingFV c false w.heap.size).cells.toArray 106 (0, 0)) := by
    conv => lhs; arg 2; rw [hN]
    exact heap_alloc_new _ _
  have hW2 : Below w.heap.size w ((w.alloc (.cells #[.slice ao n cp] 60)).alloc (.cells (thingFV c false w.heap.size).cells.toArray 106)) := (by0 w _).alloc (by simp) _
  change bodyPost _ _ _ _ _ ((w.alloc (.cells #[.slice ao n cp] 60)).alloc (.cells (thingFV c false w.heap.size).cells.toArray 106))
  generalize (w.alloc (.cells #[.slice ao n cp] 60)).alloc (.cells (thingFV c false w.heap.size).cells.toArray 106) = wf at *
  obtain ⟨z0, z1, z2, z3, z4⟩ := five hW1
  refine bodyPost_ret (v := (thingFV c false w.heap.size).val) (by simp [results, Tryz.results104, go_sem, z0, z1, z2, z3, z4]) rfl ⟨w.heap.size, Nat.le_refl _, rfl, hW0, hW2⟩

set_option maxRecDepth 100000 in
theorem always_any (f : FV) (w : World) : Calls Tryz.prog 94 #[f.val] w fun e w' => e = .returned ({ f with needed := true } : FV).val ∧ Below w.heap.size w w' := by
  obtain ⟨key, nd, tF, tC, lF, lC, rF, rC⟩ := f
  go_enter Tryz.func94, Tryz.ntmps94
  go_wp2
  have hN : w.heap.size + 1 = (w.alloc (.cells (⟨key, true, tF, tC, lF, lC, rF, rC⟩ : FV).cells.toArray 106)).heap.size := by simp
  have hW1 : ((w.alloc (.cells (⟨key, true, tF, tC, lF, lC, rF, rC⟩ : FV).cells.toArray 106)).alloc (.cells (⟨key, true, tF, tC, lF, lC, rF, rC⟩ : FV).cells.toArray 106)).heap[w.heap.size + 1]? = some (.cells (⟨key, true, tF, tC, lF, lC, rF, rC⟩ : FV).cells.toArray 106 (0, 0)) := by
    conv => lhs; arg 2; rw [hN]
    exact heap_alloc_new _ _
  have hW2 : Below w.heap.size w ((w.alloc (.cells (⟨key, true, tF, tC, lF, lC, rF, rC⟩ : FV).cells.toArray 106)).alloc (.cells (⟨key, true, tF, tC, lF, lC, rF, rC⟩ : FV).cells.toArray 106)) := (by0 w _).alloc (by simp) _
  change bodyPost _ _ _ _ _ ((w.alloc (.cells (⟨key, true, tF, tC, lF, lC, rF, rC⟩ : FV).cells.toArray 106)).alloc (.cells (⟨key, true, tF, tC, lF, lC, rF, rC⟩ : FV).cells.toArray 106))
  generalize (w.alloc (.cells (⟨key, true, tF, tC, lF, lC, rF, rC⟩ : FV).cells.toArray 106)).alloc (.cells (⟨key, true, tF, tC, lF, lC, rF, rC⟩ : FV).cells.toArray 106) = wf at *
  obtain ⟨z0, z1, z2, z3, z4⟩ := five hW1
  refine bodyPost_ret (v := (⟨key, true, tF, tC, lF, lC, rF, rC⟩ : FV).val) (by simp [results, Tryz.results94, go_sem, z0, z1, z2, z3, z4]) rfl ⟨rfl, hW2⟩

set_option maxRecDepth 100000 in
theorem digest_mk (c : UInt8) (t o : Nat) (w : World) : Calls Tryz.prog 48 #[.string ⟨#[c]⟩, .pointer (some ⟨t, o, none⟩)] w (Makes w.heap.size (digFV c) (.pointer (some ⟨t, o, none⟩)) 110 w) := by
  have hmf : ∀ (fn : Fn) (first cap : Array Value) (w : World), (Instr.makeFunc fn first cap).run Tryz.prog w = .ok (.func fn first cap) w := fun _ _ _ _ => rfl
  have HA := Lib.hid (fun w1 => always_any ⟨c, false, 95, #[ptrV w.heap.size], 96, #[ptrV w.heap.size], 97, #[ptrV w.heap.size]⟩ w1)
  have HN : Hid (w.heap.size + 1 = (w.alloc (.cells #[.pointer (some ⟨t, o, none⟩)] 110)).heap.size) := Lib.hid (by simp)
  have h1 : ((w.alloc (.cells #[.pointer (some ⟨t, o, none⟩)] 110)).alloc (.cells #[.string ⟨#[]⟩, .bool false, .nilFunc, .nilFunc, .nilFunc] 106)).heap[w.heap.size + 1]? = some (.cells #[.string ⟨#[]⟩, .bool false, .nilFunc, .nilFunc, .nilFunc] 106 (0, 0)) := by
    conv => lhs; arg 2; rw [HN.out]
    exact heap_alloc_new _ _
  have HF := Lib.hid h1
  have HK : Hid (((w.alloc (.cells #[.pointer (some ⟨t, o, none⟩)] 110)).alloc (.cells #[.string ⟨#[]⟩, .bool false, .nilFunc, .nilFunc, .nilFunc] 106)).heap[w.heap.size]? = some (.cells #[.pointer (some ⟨t, o, none⟩)] 110 (0, 0))) := Lib.hid (lit_old _ (heap_alloc_new _ _))
  have HB : Hid (Below w.heap.size w ((w.alloc (.cells #[.pointer (some ⟨t, o, none⟩)] 110)).alloc (.cells #[.string ⟨#[]⟩, .bool false, .nilFunc, .nilFunc, .nilFunc] 106))) := Lib.hid ((by0 w _).alloc (by simp) _)
  clear h1
  go_enter Tryz.func48, Tryz.ntmps48
  go_wp2_with (go_at_call 94; refine (HA.out _).mono ?_; rintro e w2 ⟨rfl, hb2⟩; have hf2 := (hb2.block _ (lit_lt HF.out)).trans HF.out; have y0 := (lit_cell hf2 0).trans rfl; have y1 := (lit_cell hf2 1).trans rfl; have y2 := (lit_cell hf2 2).trans rfl; have y3 := (lit_cell hf2 3).trans rfl; have y4 := (lit_cell hf2 4).trans rfl; have q0 := lit_free hf2 0; have q1 := lit_free hf2 1; have q2 := lit_free hf2 2; have q3 := lit_free hf2 3; have q4 := lit_free hf2 4)
  have hk2 := (hb2.block _ (lit_lt HK.out)).trans HK.out
  have hW1 := set5_block (c := w.heap.size + 1) (k := 0) (f := digFV c w.heap.size) hf2
  have hW0 : (set5 w2 (w.heap.size + 1) 0 (digFV c w.heap.size)).heap[w.heap.size]? = some (.cells #[.pointer (some ⟨t, o, none⟩)] 110 (0, 0)) := ((set5_only w2 (w.heap.size + 1) 0 (digFV c w.heap.size)).block _ (lit_lt hk2) (by omega)).trans hk2
  have hb2' : Below w.heap.size w w2 := HB.out.trans (hb2.mono HB.out.size)
  have hW2 : Below w.heap.size w (set5 w2 (w.heap.size + 1) 0 (digFV c w.heap.size)) := hb2'.trans ((set5_only w2 (w.heap.size + 1) 0 (digFV c w.heap.size)).below (by omega) hb2'.size)
  change bodyPost _ _ _ _ _ (set5 w2 (w.heap.size + 1) 0 (digFV c w.heap.size))
  generalize set5 w2 (w.heap.size + 1) 0 (digFV c w.heap.size) = wf at *
  obtain ⟨z0, z1, z2, z3, z4⟩ := five (f := digFV c w.heap.size) hW1
  refine bodyPost_ret (v := (digFV c w.heap.size).val) (by simp [results, Tryz.results48, go_sem, z0, z1, z2, z3, z4]) rfl ⟨w.heap.size, Nat.le_refl _, rfl, hW0, hW2⟩
end Go.Proofs.YtlhmmplkdjibkaaGreatDoor
