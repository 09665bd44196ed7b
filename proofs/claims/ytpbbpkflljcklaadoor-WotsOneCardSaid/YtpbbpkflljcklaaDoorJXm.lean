/- WotsOne: its walk. -/
import Derived.Test.YtpbbpkflljcklaaDoorJXg
import Derived.Test.YtpbbpkflljcklaaDoorJXh
import Derived.Test.YtpbbpkflljcklaaDoorJXi0
import Derived.Test.YtpbbpkflljcklaaDoorJXj0
import Derived.Test.YtpbbpkflljcklaaDoorJ5
import Derived.Deep.RegionHeld3
import Derived.Test.YtpbbpkflljcklaaDoorJ6
namespace Go.Proofs.YtpbbpkflljcklaaDoor
open Go.RowKit

theorem W13.put' {w0 wz : World} {a b : Value} (h : W13 w0 #[a, b] wz) (c d : Value) : W13 w0 #[c, d] ((wz.setCell ⟨w0.heap.size, 0, none⟩ c).setCell ⟨w0.heap.size, 1, none⟩ d) :=
  ⟨(h.o.setCell (Nat.le_refl _) c).setCell (Nat.le_refl _) d, (lit_set d (lit_set c h.x)).trans rfl⟩
/-- another text's box, behind the key's -/
def O13 (w0 : World) (cs : Array Value) (wz : World) : Prop := wz.heap[w0.heap.size + 1]? = some (.cells cs 45 (0, 0))
theorem O13.next {w0 wz wa : World} {cs : Array Value} (h : O13 w0 cs wz) (hb : Below wz.heap.size wz wa) : O13 w0 cs wa := (hb.block _ (lit_lt h)).trans h
set_option maxRecDepth 100000 in
set_option maxHeartbeats 8000000 in
theorem wotsOne_any (C : WotsC) (CC : ChainC) (HWK : WorksW) (s : (List UInt8)) (n : Nat) (x : (List UInt8)) (c : Nat) (x2 : (List UInt8)) (w : World) (hg : Glob w) (hn : n < 18446744073709551616) (hs : s.length ≤ maxLen) (hx : x.length ≤ maxLen) (hc : c < 256) (hx2 : x2.length ≤ maxLen) :
    Calls Tryd.prog 6 #[.agg #[.string ⟨s.toArray⟩, .int .u64 (n : Int)], .string ⟨x.toArray⟩, .agg #[.int .u8 (c : Int), .string ⟨x2.toArray⟩]] w fun e w' => e = .returned (.bool true) ∧ Below w.heap.size w w' := by
  have HWO := Lib.hid (fun wz (h : Below w.heap.size w wz) => HWK wz (hg.below hg.size h))
  have HCU := Lib.hid (fun wz => lcut_any s n wz hs)
  have HDI := Lib.hid (fun wz => digest13_any x wz hx)
  have HDJ := Lib.hid (fun wz => digest13_any x2 wz hx2)
  have hd32 := padT_len x
  have hy32 := padT_len x2
  have hls : (s.take 100).length ≤ 100 := by rw [List.length_take]; omega
  generalize s.take 100 = S at *
  generalize padT x = D at *
  generalize padT x2 = Y at *
  have HGB := Lib.hid (fun wz (h : Below w.heap.size w wz) => hg.below hg.size h)
  have hsg : signC S n D = (sigL S n D, 0) := signC_yes hd32
  have HA := Lib.hid (fun wz (h : Below w.heap.size w wz) => C.s S n D wz (HGB.out wz h) (by omega) hn (by omega))
  rw [hsg] at HA
  have hrec : recC (sigL S n D) D = (pubF S n, 0) := rec_back hd32
  obtain ⟨L, hL⟩ : ∃ L, L = sigL S n D := ⟨_, rfl⟩
  have hl67 : L.length = 67 := by rw [hL, sigL, row67_len]
  have hlm : ∀ t ∈ L, t.length ≤ 32 := by rw [hL]; exact sig_short _ _ _
  have hge : ∀ (i : Nat) (hi : i < 67), L[i]'(by omega) = walkV (i : Int) 0 (dgt D i : Nat) (secF S n i) := by
    intro i hi
    subst hL
    exact row67_get _ i hi
  have hle : ∀ (i : Nat) (hi : i < L.length), L[i].length = 32 := fun i hi => by rw [hge i (by omega)]; exact walkV_32 i _ _ (by omega) (dgt_le hd32 (by omega)) (secF_32 _ _ _)
  rw [← hL] at HA hrec
  simp only [hl67] at HA
  obtain ⟨a, ha⟩ : ∃ a, a = c % 67 := ⟨_, rfl⟩
  have ha67 : a < 67 := by omega
  have hr1 : (c : Int).tmod 67 = (a : Int) := by rw [Int.tmod_eq_emod_of_nonneg (by omega)]; omega
  have hr2 : (c : Int) % 67 = (a : Int) := by omega
  have hcv : IntKind.i64.wrap (c : Int) = (c : Int) := IntWalk.i64_in _ (by omega)
  obtain ⟨T, hT⟩ : ∃ T, T = L.set a Y := ⟨_, rfl⟩
  have ht67 : T.length = 67 := by rw [hT, List.length_set, hl67]
  have hte : ∀ (i : Nat) (hi : i < T.length), T[i].length = 32 := fun i hi => by
    subst hT
    rw [List.getElem_set]
    split
    · exact hy32
    · exact hle i _
  obtain ⟨f, hf⟩ : ∃ f : Nat → (List UInt8), f = fun i : Nat => walkV (i : Int) (dgt D i : Nat) 15 (T.getD i []) := ⟨_, rfl⟩
  have htg : ∀ (i : Nat) (hi : i < T.length), T.getD i [] = T[i] := fun i hi => by rw [List.getD_eq_getElem?_getD, List.getElem?_eq_getElem hi]; rfl
  have hfl : ∀ i, i < 67 → (f i).length ≤ 32 := fun i hi => by rw [hf]; exact walkV_len32 i _ 15 _ (by rw [htg i (by omega), hte i (by omega)]; decide)
  have hrecT : recC T D = (hashL publicT (row67 f), 0) := by rw [recC_yes hd32 (isSig_yes ht67 hte), hf]; rfl
  have HR1 := Lib.hid (fun wz g cp (h : Below w.heap.size w wz) (hS : Strs (some ⟨g, 0, none⟩) T wz) => show Calls Tryd.prog 14 #[.slice (some ⟨g, 0, none⟩) 67 cp, .string ⟨D.toArray⟩] wz fun e w' => e = .returned (.tuple #[.string ⟨(hashL publicT (row67 f)).toArray⟩, .int .i64 0]) ∧ Below wz.heap.size wz w' by
    have := C.r T _ cp D wz (HGB.out wz h) hS (by omega) (fun t ht => by obtain ⟨i, hi, rfl⟩ := List.getElem_of_mem ht; rw [hte i hi]; decide) (by omega)
    rw [hrecT, ht67] at this
    exact this)
  obtain ⟨P, hP⟩ : ∃ P, P = pubF S n := ⟨_, rfl⟩
  have HR2 := Lib.hid (fun wz g cp (h : Below w.heap.size w wz) (hS : Strs (some ⟨g, 0, none⟩) L wz) => show Calls Tryd.prog 14 #[.slice (some ⟨g, 0, none⟩) 67 cp, .string ⟨D.toArray⟩] wz fun e w' => e = .returned (.tuple #[.string ⟨P.toArray⟩, .int .i64 0]) ∧ Below wz.heap.size wz w' by
    have := C.r L _ cp D wz (HGB.out wz h) hS (by omega) (fun t ht => by have := hlm t ht; omega) (by omega)
    rw [hrec, hl67, ← hP] at this
    exact this)
  have HPU := Lib.hid (fun wz (h : Below w.heap.size w wz) => show Calls Tryd.prog 10 #[.string ⟨S.toArray⟩, .int .u64 (n : Int)] wz fun e w' => e = .returned (.string ⟨P.toArray⟩) ∧ Below wz.heap.size wz w' by rw [hP]; exact C.p S n wz (HGB.out wz h) (by omega) hn)
  have HDG := Lib.hid (fun wz (h : Below w.heap.size w wz) => CC.d D wz (HGB.out wz h) (by unfold maxLen; omega))
  have HDC := Lib.hid (show digC D = digL D from if_pos hd32)
  have HDL := Lib.hid (digL_len hd32)
  have HDA := Lib.hid (fun i (hi : i < 67) => dgt_at hd32 hi)
  have HSE := Lib.hid (fun wz (h : Below w.heap.size w wz) => show Calls Tryd.prog 20 #[.agg #[.string ⟨S.toArray⟩, .int .u64 (n : Int)], .int .i64 (a : Int)] wz fun e w' => e = .returned (.string ⟨(secF S n a).toArray⟩) ∧ Below wz.heap.size wz w' from lsecret_any S n a wz (HGB.out wz h) (by omega) (by omega))
  obtain ⟨la, hla⟩ : ∃ la, la = L[a]'(by omega) := ⟨_, rfl⟩
  have HWA := Lib.hid (fun wz (h : Below w.heap.size w wz) => show Calls Tryd.prog 19 #[.int .i64 (a : Int), .int .i64 0, .int .i64 (dgt D a : Nat), .string ⟨(secF S n a).toArray⟩] wz fun e w' => e = .returned (.string ⟨la.toArray⟩) ∧ Below wz.heap.size wz w' by
    rw [hla, hge a ha67]; exact CC.k a 0 (dgt D a : Nat) (secF S n a) wz (HGB.out wz h) (by have := secF_len S n a; omega))
  have HBA := Lib.hid (show T.set a la = L by rw [hT, List.set_set, hla, List.set_getElem_self])
  have HW := Lib.hid (fun (k : Nat) (hk : k < 67) wz (h : Below w.heap.size w wz) => show Calls Tryd.prog 19 #[.int .i64 (k : Int), .int .i64 (dgt D k : Nat), .int .i64 15, .string ⟨(T[k]'(by omega)).toArray⟩] wz fun e w' => e = .returned (.string ⟨(f k).toArray⟩) ∧ Below wz.heap.size wz w' by
    have := CC.k k (dgt D k : Nat) 15 (T[k]'(by omega)) wz (HGB.out wz h) (by rw [hte k (by omega)]; decide)
    rw [hf]
    show Calls _ _ _ _ fun e w' => e = .returned (.string ⟨(walkV (k : Int) (dgt D k : Nat) 15 (T.getD k [])).toArray⟩) ∧ _
    rw [htg k (by omega)]
    exact this)
  have HTT := Lib.hid (fun k hk => row67_take f k hk)
  have HLN := Lib.hid (fun k => show ((row67 f).take k).length ≤ 67 by rw [List.length_take, row67_len]; omega)
  have HLL := Lib.hid hl67
  have HTL := Lib.hid ht67
  have HTE := Lib.hid hT
  have HFL := Lib.hid (framed67 publicT f (by decide) (fun i hi => by have := hfl i hi; omega))
  have HH := Lib.hid (fun wz (h : Below w.heap.size w wz) ao cp (hS : Strs ao (row67 f) wz) => show Calls Tryd.prog 21 #[.string ⟨#[112, 117, 98, 108, 105, 99]⟩, .slice ao (row67 f).length cp] wz fun e w' => e = .returned (.string ⟨(hashL publicT (row67 f)).toArray⟩) ∧ Below wz.heap.size wz w' from hash_any publicT ao cp (row67 f) wz (HGB.out wz h) hS (by decide) (by have := HFL.out; omega))
  have K := Lib.hid ((W13.start w #[.string ⟨s.toArray⟩, .int .u64 (n : Int)]).next (by0 _ (.cells #[.int .u8 (c : Int), .string ⟨x2.toArray⟩] 45)))
  have O := Lib.hid (show O13 w #[.int .u8 (c : Int), .string ⟨x2.toArray⟩] ((w.alloc (.cells #[.string ⟨s.toArray⟩, .int .u64 (n : Int)] 24)).alloc (.cells #[.int .u8 (c : Int), .string ⟨x2.toArray⟩] 45)) by
    have := heap_alloc_new (w.alloc (.cells #[.string ⟨s.toArray⟩, .int .u64 (n : Int)] 24)) (.cells #[.int .u8 (c : Int), .string ⟨x2.toArray⟩] 45)
    rw [World.size_alloc] at this
    exact this)
  have a0 : (0 : Int) ≤ (a : Int) := by omega
  have a1 : (a : Int) < 67 := by omega
  have HA67 := Lib.hid ha67
  clear hs hn hx hls hg hge hlm hL hsg hrec hf hfl hx2 hc ha hle hT hte htg hrecT hP hla hl67 hd32 hy32 ha67
  go_enter Tryd.func6, Tryd.ntmps6
  go_upto_region 1 with fail
  change Code.wp _ _ _ _ ((w.alloc (.cells #[.string ⟨s.toArray⟩, .int .u64 (n : Int)] 24)).alloc (.cells #[.int .u8 (c : Int), .string ⟨x2.toArray⟩] 45))
  generalize (w.alloc (.cells #[.string ⟨s.toArray⟩, .int .u64 (n : Int)] 24)).alloc (.cells #[.int .u8 (c : Int), .string ⟨x2.toArray⟩] 45) = w1 at *
  go_upto_region 3 with (go_at_call 13; with_reducible refine (HWO.out _ K.out.o).mono ?_; rintro e w2 ⟨rfl, hb2⟩; have K := Lib.hid (K.out.next hb2); have O := Lib.hid (O.out.next hb2); clear hb2)
  obtain ⟨c0, c1⟩ := K.out.get
  go_upto_region 4 with (go_at_call 16; with_reducible refine (HCU.out _).mono ?_; rintro e w3 ⟨rfl, hb3⟩; have K := Lib.hid (K.out.next hb3); have O := Lib.hid (O.out.next hb3); clear c0 c1; obtain ⟨c0, c1⟩ := K.out.get; have f0 := lit_free K.out.x 0; have f1 := lit_free K.out.x 1; clear hb3)
  have K := Lib.hid (K.out.put' (.string ⟨S.toArray⟩) (.int .u64 (n : Int)))
  have O := Lib.hid (show O13 w #[.int .u8 (c : Int), .string ⟨x2.toArray⟩] ((w3.setCell ⟨w.heap.size, 0, none⟩ (.string ⟨S.toArray⟩)).setCell ⟨w.heap.size, 1, none⟩ (.int .u64 (n : Int))) from (lit_far _ (by omega)).trans ((lit_far _ (by omega)).trans O.out))
  clear c0 c1 f0 f1
  generalize (w3.setCell ⟨w.heap.size, 0, none⟩ (.string ⟨S.toArray⟩)).setCell ⟨w.heap.size, 1, none⟩ (.int .u64 (n : Int)) = w4 at *
  go_upto_region 5 with (go_at_call 17; with_reducible refine (HDI.out _).mono ?_; rintro e w5 ⟨rfl, hb5⟩; have K := Lib.hid (K.out.next hb5); have O := Lib.hid (O.out.next hb5); clear hb5)
  obtain ⟨c0, c1⟩ := K.out.get
  go_upto_region 6 with (go_at_call 8; with_reducible refine (HA.out _ K.out.o).mono ?_; rintro e w6 ⟨aa, ac, rfl, ha, -, hb6⟩; have K := Lib.hid (K.out.next hb6); have O := Lib.hid (O.out.next hb6); have SA := Lib.hid ha; clear ha hb6)
  clear c0 c1 HA
  go_upto_region 7 with (go_at_call 18; with_reducible refine (HDG.out _ K.out.o).mono ?_; rintro e w8 ⟨da, dc, rfl, hdi, hdb⟩; have K := Lib.hid (K.out.next hdb); have O := Lib.hid (O.out.next hdb); have SA := Lib.hid (SA.out.below (Nat.le_refl _) hdb); rw [HDC.out] at hdi; rw [HDC.out, HDL.out]; have HI := Lib.hid hdi; clear hdi hdb)
  have o0 : w8.cell? ⟨w.heap.size + 1, 0, none⟩ = some (.int .u8 (c : Int)) := (lit_cell O.out 0).trans rfl
  have o1 : w8.cell? ⟨w.heap.size + 1, 1, none⟩ = some (.string ⟨x2.toArray⟩) := (lit_cell O.out 1).trans rfl
  go_upto_region 10 with fail
  obtain ⟨b1, q1, rfl, -⟩ := SA.out.cell 0 (by rw [HLL.out]; decide)
  obtain ⟨db, doff, rfl, -⟩ := Ints.get HI.out (by rw [HDL.out]; decide)
  have HCL := Lib.hid (show ∀ i (h : i < L.length), w8.cell? ⟨b1, q1 + i, none⟩ = some (.string ⟨L[i].toArray⟩) from fun i h => by
    obtain ⟨b2, o2, e2, hc⟩ := SA.out.cell i h
    cases e2
    exact hc)
  clear hr1 hr2 hcv
  have K8 := Lib.hid K.out
  have HI8 := Lib.hid HI.out
  go_upto_region 11 with (at_builtin; refine append_all_n HLL.out rfl _ _ rfl rfl rfl HCL.out (by rw [HLL.out]; decide) (by rw [HLL.out]; decide) ?_; intro g cp w9 ho9 hb9 hg9; have HO := Lib.hid ho9; have HB9 := Lib.hid hb9; clear ho9 hb9 hg9 o0 o1; have K := Lib.hid (K.out.next HB9.out); have O := Lib.hid (O.out.next HB9.out))
  clear HCL SA
  have o0 : w9.cell? ⟨w.heap.size + 1, 0, none⟩ = some (.int .u8 (c : Int)) := (lit_cell O.out 0).trans rfl
  have o1 : w9.cell? ⟨w.heap.size + 1, 1, none⟩ = some (.string ⟨x2.toArray⟩) := (lit_cell O.out 1).trans rfl
  go_upto_region 12 with (go_at_call 17; with_reducible refine (HDJ.out _).mono ?_; rintro e w10 ⟨rfl, hb10⟩; clear o0 o1; have hO10 := trow_at (trow_next HO.out hb10); have c10 := hO10.2.1 a (by rw [HLL.out]; exact HA67.out); have f10 := hO10.2.2.1 a; have HG10 := Lib.hid hO10.1; have HO := Lib.hid (trow_next HO.out hb10); have HB10 := Lib.hid hb10; clear hO10 hb10)
  clear c10 f10 HDJ K HI O
  have HB12 := Lib.hid ((HB9.out.trans (HB10.out.mono HB9.out.size)).setCell (p := ⟨g, a, none⟩) HG10.out (.string ⟨Y.toArray⟩))
  have HO12 := Lib.hid (row_set_n (i := a) (t := Y) HLL.out HO.out)
  rw [← HTE.out] at HO12
  generalize w10.setCell ⟨g, a, none⟩ (.string ⟨Y.toArray⟩) = w12 at *
  have K := Lib.hid (K8.out.next HB12.out)
  have HI := Lib.hid (HI8.out.next HB12.out)
  have HGW := Lib.hid (Nat.lt_of_lt_of_le (lit_lt K8.out.x) HG10.out)
  have HGL := Lib.hid (trow_at HO12.out).2.2.2
  clear K8 HI8 HB9 HB10 HO HG10 HB12 HCU HDI HWO HDG
  have HDV := Lib.hid (show ∀ k y : Nat, (digL D)[k]? = some y → w12.cell? ⟨db, doff + k, none⟩ = some (.int .i64 (y : Int)) from fun k y h => by
    obtain ⟨b2, o2, e2, hc⟩ := Ints.get HI.out (by rw [HDL.out]; decide)
    cases e2
    exact hc k y h)
  clear HI
  go_upto_region 14 with fail
  go_loopw [13, 14] (fun v13 v14 wr => ∃ (k : Nat) (v : Value), k ≤ 67 ∧ v = v13 ∧ v14 = .int .i64 (k : Int) ∧ Hid (TRow w12.heap.size ((row67 f).take k) v13 wr) ∧ Hid (Below w12.heap.size w12 wr)) (fun _ v14 _ => 67 - (intOf v14).toNat)
  case atStart => exact ⟨0, _, Nat.zero_le _, rfl, rfl, Lib.hid (trow_nil _ _), Lib.hid (Below.refl _ _)⟩
  case round =>
    obtain ⟨k, v13, hk, rfl, rfl, HI, HB⟩ := hrel
    by_cases hlt : k < 67
    · have k1 : (k : Int) < 67 := by omega
      have k0 : (0 : Int) ≤ (k : Int) := by omega
      have hd := key_keep HB.out.drew (HDV.out k _ (HDA.out k hlt))
      have hcell := key_keep HB.out.drew ((trow_at HO12.out).2.1 k (by rw [HTL.out]; exact hlt))
      have HBD := Lib.hid (below_drew HB.out)
      have HID := Lib.hid (trow_next HI.out (Below.refl _ _).drew)
      have HWk := Lib.hid (fun wz h => HW.out k hlt wz h)
      have HTk := Lib.hid (HTT.out k hlt)
      have HLk := HLN.out k
      have HLT := Lib.hid hlt
      have HKO := Lib.hid K.out.o
      generalize T[k] = y at *
      generalize f k = z at *
      generalize (row67 f).take k = X at *
      generalize dgt D k = q at *
      clear hlt hk
      go_upto_region 16 with fail
      go_region_law (first
        | (go_simp; go_at_call 19; with_reducible refine (HWk.out _ (below_next HKO.out HBD.out)).mono ?_; rintro e w3 ⟨rfl, hb3⟩; have HB3 := Lib.hid (below_next HBD.out hb3); have HI3 := Lib.hid (trow_next HID.out hb3); clear hb3)
        | (refine step_append_txt (t := z) rfl (.tmp 65) (.tmp 76) rfl rfl rfl HI3.out (by omega) HB3.out.size ?_; intro g5 c5 w5 ho5 hg5 _; have HO5 := Lib.hid ho5; have HB5 := Lib.hid (HB3.out.grown hg5 HB3.out.size (fun j e => (HI3.out.lt j e).1)); clear ho5 hg5))
      all_goals
        go_wp2
        go_roundw
        case rel => exact ⟨k + 1, _, HLT.out, rfl, by go_num, Lib.hid (by rw [HTk.out]; exact HO5.out), HB5⟩
        case measure => have := HLT.out; simp [intOf]; omega
    · have k1 : ¬ (k : Int) < 67 := by omega
      have ek : (row67 f).take k = row67 f := List.take_of_length_le (by rw [row67_len]; omega)
      rw [ek] at HI
      obtain ⟨ro, rc, rfl, hS⟩ := strs_of_row HI.out
      have HF := Lib.hid (show TRow w12.heap.size (row67 f) (.slice ro (row67 f).length rc) wr from HI.out)
      have HTr := Lib.hid (trow_next HO12.out HB.out)
      have K := Lib.hid (K.out.next HB.out)
      have hd := key_keep HB.out (HDV.out a _ (HDA.out a HA67.out))
      have HD := Lib.hid hd
      clear hS hd ek hlt hk HI HB HW HTT HLN HDA HDV HO12
      generalize row67 f = F at *
      generalize dgt D a = da at *
      generalize secF S n a = sa at *
      go_upto_region 18 with (go_at_call 14; with_reducible refine (HR1.out _ _ _ K.out.o (trow_strs HTr.out HTL.out.symm).1).mono ?_; rintro e w13 ⟨rfl, hb13⟩; have K := Lib.hid (K.out.next hb13); have HF := Lib.hid (trow_next HF.out hb13); have HTr := Lib.hid (trow_next HTr.out hb13); have HD := Lib.hid (key_keep hb13 HD.out); clear hb13)
      have K := Lib.hid K.out.drew
      have HF := Lib.hid (trow_next HF.out (Below.refl _ _).drew)
      have HTr := Lib.hid (trow_next HTr.out (Below.refl _ _).drew)
      have d0 : w13.drew.cell? ⟨db, doff + a, none⟩ = some (.int .i64 (da : Int)) := HD.out
      have c0 := K.out.get.1
      have c1 := K.out.get.2
      clear HR1 HD
      go_region_with
        (first
          | (go_at_call 20; with_reducible refine (HSE.out _ K.out.o).mono ?_; rintro e wa ⟨rfl, hba⟩; have K := Lib.hid (K.out.next hba); have HF := Lib.hid (trow_next HF.out hba); have HTr := Lib.hid (trow_next HTr.out hba); have d0 := key_keep hba d0)
          | (go_at_call 19; with_reducible refine (HWA.out _ K.out.o).mono ?_; rintro e wb ⟨rfl, hbb⟩; have K := Lib.hid (K.out.next hbb); have HF := Lib.hid (trow_next HF.out hbb); have hT := trow_at (trow_next HTr.out hbb); have t1 := hT.2.1 a (by rw [HTL.out]; exact HA67.out); have f1 := hT.2.2.1 a; have HTr := Lib.hid (trow_next HTr.out hbb)))
      all_goals
        have KE := Lib.hid (show W13 w #[.string ⟨S.toArray⟩, .int .u64 (n : Int)] (wb.setCell ⟨g, a, none⟩ (.string ⟨la.toArray⟩)) from ⟨K.out.o.setCell (Nat.le_of_lt HGW.out) _, (lit_far _ (Nat.ne_of_lt HGW.out)).trans K.out.x⟩)
        have HTE := Lib.hid (row_set_n (i := a) (t := la) HTL.out HTr.out)
        rw [HBA.out] at HTE
        have HFE := Lib.hid (own_kept (S := fun j => j ≠ g) HF.out ((Kept.refl _ wb).setCell g a (.string ⟨la.toArray⟩) (fun _ h => h rfl)) (fun j hj => by have := HGL.out; omega))
        have SE := Lib.hid (trow_strs HFE.out rfl).1
        clear K HTr HF HFE d0 t1 f1 hT c0 c1
        generalize wb.setCell ⟨g, a, none⟩ (.string ⟨la.toArray⟩) = wE at *
        go_upto_region 20 with (go_at_call 14; with_reducible refine (HR2.out _ _ _ KE.out.o (trow_strs HTE.out HLL.out.symm).1).mono ?_; rintro e w14 ⟨rfl, hb14⟩; have KE := Lib.hid (KE.out.next hb14); have SE := Lib.hid (SE.out.below (Nat.le_refl _) hb14); clear hb14)
        go_wp2_with (first
          | (go_at_call 21; with_reducible refine (HH.out _ KE.out.o _ _ SE.out).mono ?_; rintro e w15 ⟨rfl, hb15⟩; have KE := Lib.hid (KE.out.next hb15); clear hb15; obtain ⟨c0, c1⟩ := KE.out.get)
          | (go_at_call 10; with_reducible refine (HPU.out _ KE.out.o).mono ?_; rintro e w16 ⟨rfl, hb16⟩; have KE := Lib.hid (KE.out.next hb16); clear hb16))
        exact bodyPost_ret (v := .bool true) (by simp [results, Tryd.results6, go_sem]) rfl ⟨rfl, KE.out.o⟩
end Go.Proofs.YtpbbpkflljcklaaDoor
