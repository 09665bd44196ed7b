/- Layer 11's document: what comes of a proof (Root), of up to a thousand positions. -/
import Derived.Test.YtmnklonoelpidaaGreatDoorJ22
namespace Go.Proofs.YtmnklonoelpidaaGreatDoor
open Go.RowKit Go.Sort

theorem news_plc (w : World) (l : List Value) (t : TypeId) : ∀ j u, l[j]? = some u → ((w.alloc (.cells l.toArray t)).drew).cell? ((⟨w.heap.size, 0, none⟩ : Addr).add j) = some u := by
  intro j u h
  rw [World.cell?_drew, Addr.add_mid, Nat.zero_add, World.cell?_alloc_at (hn := rfl)]
  simpa using h
set_option maxRecDepth 100000 in
theorem iroot_bad (n : Int) (P : List Nat) (E R : List (List UInt8)) (ao bo po : Option Addr) (ca cb cp : Nat) (w : World) (hP : Nums ao P w) (hn : P.length ≤ 1000) (_ : E.length ≤ 100000) (hb : mayP n P = false ∨ E.length ≠ P.length) :
    Calls Tryz.prog 64 #[.int .i64 n, .slice ao P.length ca, .slice bo E.length cb, .slice po R.length cp] w fun e w' => e = .returned (.tuple #[.string ⟨#[]⟩, .int .i64 2]) ∧ Below w.heap.size w w' := by
  have HM := Lib.hid (may11_any n ao ca P w hP (by omega))
  clear hP
  by_cases h : mayP n P = false
  · rw [h] at HM
    clear hb h
    go_enter Tryz.func64, Tryz.ntmps64
    go_wp2_with (go_at_call 91; refine HM.out.mono ?_; rintro e w1 ⟨rfl, hb1⟩)
    exact bodyPost_ret (v := .tuple #[.string ⟨#[]⟩, .int .i64 2]) (by simp [results, Tryz.results64, go_sem]) rfl ⟨rfl, hb1⟩
  · have hne := hb.resolve_left h
    have hz : ((E.length : Int) != (P.length : Int)) = true := by simp; omega
    rw [show mayP n P = true by simpa using h] at HM
    clear hb h hne
    go_enter Tryz.func64, Tryz.ntmps64
    go_wp2_with (go_at_call 91; refine HM.out.mono ?_; rintro e w1 ⟨rfl, hb1⟩)
    exact bodyPost_ret (v := .tuple #[.string ⟨#[]⟩, .int .i64 2]) (by simp [results, Tryz.results64, go_sem]) rfl ⟨rfl, hb1⟩
set_option maxRecDepth 100000 in
set_option maxHeartbeats 4000000 in
theorem iroot_may (n : Nat) (P : List Nat) (E R : List (List UInt8)) (ao bo po : Option Addr) (ca cb cp : Nat) (w : World) (hP : Nums ao P w) (hE : Strs bo E w) (hR : Strs po R w) (hn : P.length ≤ 1000) (hn6 : n ≤ 65536) (hs : standsP P n = true) (hel : E.length = P.length) (hcp : R.length ≤ cp) (hrn : R.length ≤ 100000) (he : ∀ i (h : i < E.length), E[i].length ≤ 10000000) (hr : ∀ i (h : i < R.length), R[i].length ≤ 1000000000) :
    Calls Tryz.prog 64 #[.int .i64 (n : Int), .slice ao P.length ca, .slice bo E.length cb, .slice po R.length cp] w fun e w' => e = .returned (.tuple #[.string ⟨(rootV n P E R).1.toArray⟩, .int .i64 (rootV n P E R).2]) ∧ Below w.heap.size w w' := by
  have hmay : mayP (n : Int) P = true := by rw [mayP, decide_eq_true (by omega), Bool.true_and, Int.toNat_natCast]; exact hs
  have HM := Lib.hid (may11_any (n : Int) ao ca P w hP (by omega))
  rw [hmay] at HM
  have HV := Lib.hid (show rootV n P E R = if all32 R = false then ([], 5) else if sizeE R.length (sizeD P n) ≠ 0 then ([], sizeE R.length (sizeD P n)) else (comesD (lvs P (dep n)) (dep n) R (leafF P E (dep n)), 0) by
    rw [rootV, if_neg (by rw [hmay]; simp [hel]), Int.toNat_natCast])
  have HD := Lib.hid (fun wz => refDepth_any (n : Int) wz)
  rw [depthV, if_neg (by omega), Int.toNat_natCast] at HD
  have hd16 := dep_le n hn6
  have hpp := stands_parts hs
  have HLT := Lib.hid (lvs_lt hs hn6)
  have HLA := Lib.hid (fun i h h' => leafF_at hs hn6 (E := E) i h h')
  have HLL : Hid ((lvs P (dep n)).length = P.length) := Lib.hid (by simp)
  have HL0 : Hid (lvs P (dep n) ≠ []) := Lib.hid (fun e => hpp.1 (List.map_eq_nil_iff.1 e))
  have HLG : Hid (∀ i (h : i < P.length), (lvs P (dep n))[i]? = some (turnB P[i] (dep n : Int))) := Lib.hid (fun i h => by simp [h])
  rw [sizeD] at HV
  have HFL := Lib.hid (leafF_len P E (dep n))
  have HLF := Lib.hid (fun k d wz => refLeaf_any k d wz)
  obtain ⟨f, hf⟩ : ∃ f, leafF P E (dep n) = f := ⟨_, rfl⟩
  obtain ⟨V, hV⟩ : ∃ V, V = rootV n P E R := ⟨_, rfl⟩
  rw [hf] at HV HLA HFL
  rw [← hV] at HV ⊢
  have HP := Lib.hid hP
  have HE := Lib.hid hE
  have HR := Lib.hid hR
  have HEL := Lib.hid he
  have HRL := Lib.hid hr
  have n1 : (P.length : Int) ≤ 1000 := by omega
  have n2 : (R.length : Int) ≤ 100000 := by omega
  have n3 : ((E.length : Int) != (P.length : Int)) = false := by rw [hel]; simp
  have HLE := Lib.hid hel
  have h200 : ∀ x ∈ P, x < 18446744073709551616 := fun x hx => by have := hpp.2.2 x hx; omega
  have H200 := Lib.hid h200
  clear hP hE hR he hr hf hV hmay hs hel h200 hpp
  generalize dep n = D at *
  obtain ⟨LV, hLVe⟩ : ∃ LV, LV = lvs P D := ⟨_, rfl⟩
  have HLVe := Lib.hid hLVe
  rw [← hLVe] at HV HLT HLL HL0 HLG
  clear hLVe
  go_enter Tryz.func64, Tryz.ntmps64
  go_upto_region 2 with (go_at_call 91; refine HM.out.mono ?_; rintro e w1 ⟨rfl, hb1⟩)
  have HB1 := Lib.hid hb1
  clear hb1 HM
  go_wp2
  go_loopw [10] (fun vi wr => ∃ i : Nat, vi = .int .i64 (i : Int) ∧ i ≤ R.length ∧ Hid (∀ x ∈ R.take i, x.length = 32) ∧ w1 = wr) (fun vi _ => R.length - (intOf vi).toNat)
  case atStart => exact ⟨0, rfl, Nat.zero_le _, Lib.hid (by simp), rfl⟩
  case round =>
    obtain ⟨i, rfl, hi, HA, rfl⟩ := hrel
    by_cases hie : i < R.length
    · have hl : (i : Int) < (R.length : Int) := by omega
      have i0 : (0 : Int) ≤ (i : Int) := by omega
      obtain ⟨b2, o2, rfl, hc2⟩ := (HR.out.below (Nat.le_refl _) HB1.out).cell i hie
      have hxl := HRL.out i hie
      have hTK := List.take_append_getElem (l := R) hie
      have hmem := List.getElem_mem hie
      obtain ⟨X, hX⟩ : ∃ X, X = R[i] := ⟨_, rfl⟩
      rw [← hX] at hc2 hxl hTK hmem
      have x1 : (X.length : Int) ≤ 1000000000 := by omega
      by_cases h32 : X.length = 32
      · have hz : ((X.length : Int) != 32) = false := by rw [h32]; rfl
        have HA2 := Lib.hid (show ∀ x ∈ R.take (i + 1), x.length = 32 by
          rw [← hTK]
          intro y hy
          rcases List.mem_append.1 hy with h | h
          · exact HA.out y h
          · simp at h; subst h; exact h32)
        clear hX hxl hTK hmem h32 hie
        go_wp2
        go_roundw
        case rel => exact ⟨i + 1, by go_num, by omega, HA2, trivial⟩
        case measure => simp [intOf] <;> omega
      · have hz : ((X.length : Int) != 32) = true := by simp; omega
        have HE5 := Lib.hid (show V = ([], 5) by rw [HV.out, if_pos (show all32 R = false from decide_eq_false fun h => h32 (h X hmem))])
        clear hX hxl hTK hmem h32 hie
        go_wp2
        exact bodyPost_ret (v := .tuple #[.string ⟨#[]⟩, .int .i64 5]) (by simp [results, Tryz.results64, go_sem]) rfl ⟨by rw [HE5.out], HB1.out⟩
    · have hl : ¬ (i : Int) < (R.length : Int) := by omega
      have H32 := Lib.hid (show all32 R = true from decide_eq_true (by
        have := HA.out
        rwa [List.take_of_length_le (by omega)] at this))
      have HV2 := Lib.hid (HV.out.trans (if_neg (by rw [H32.out]; decide)))
      clear hie HV
      go_upto_region 12 with (go_at_call 44; refine (HD.out _).mono ?_; rintro e w' ⟨rfl, rfl⟩)
      clear hl HD HA hi
      go_wp2
      go_loopw [12, 13, 14, 15] (fun v12 v13 v14 _ wr => ∃ i : Nat, v14 = .int .i64 (i : Int) ∧ i ≤ P.length ∧ Hid (wr.ownsRow w.heap.size 22 1 v12 (LV.take i).length ((LV.take i).map encU)) ∧ Hid (PlcRow w.heap.size ((LV.take i).map fun x => (x, f x)) v13 wr) ∧ Hid (Below w.heap.size w wr)) (fun _ _ vi _ _ => P.length - (intOf vi).toNat)
      case atStart => exact ⟨0, rfl, Nat.zero_le _, Lib.hid (World.ownsRow_nil _ _ _ _), Lib.hid (plc_nil _ _), HB1⟩
      case round =>
        obtain ⟨i, rfl, hi, HO, HK, HB⟩ := hrel
        by_cases hie : i < P.length
        · have hl : (i : Int) < (P.length : Int) := by omega
          have i0 : (0 : Int) ≤ (i : Int) := by omega
          have hiE : i < E.length := by rw [HLE.out]; exact hie
          have hl2 : (i : Int) < (E.length : Int) := by omega
          obtain ⟨b1, o1, rfl, hc1⟩ := nums_at (nums_next HP.out HB.out) i hie
          obtain ⟨b2, o2, rfl, hc2⟩ := HE.out.cell i hiE
          have hgl := HLG.out i hie
          have hfx := HLA.out i hie hiE
          have hXl := HEL.out i hiE
          have hp64 := H200.out _ (List.getElem_mem hie)
          obtain ⟨p, hp⟩ : ∃ p, p = P[i] := ⟨_, rfl⟩
          obtain ⟨X, hX⟩ : ∃ X, X = E[i] := ⟨_, rfl⟩
          rw [← hp] at hc1 hfx hgl hp64
          rw [← hX] at hc2 hfx hXl
          have HLf := Lib.hid (fun wz => HLF.out p (D : Int) wz)
          obtain ⟨x, hx⟩ : ∃ x, x = turnB p (D : Int) := ⟨_, rfl⟩
          rw [← hx] at hgl hfx HLf
          have hiL : i < LV.length := by rw [HLL.out]; exact hie
          have hLx : LV[i] = x := by rw [List.getElem?_eq_getElem hiL] at hgl; exact Option.some.inj hgl
          have HTK := Lib.hid (show LV.take i ++ [x] = LV.take (i + 1) by rw [← List.take_append_getElem hiL, hLx])
          have HTK2 := Lib.hid (show ((LV.take i).map fun x => (x, f x)) ++ [(x, f x)] = (LV.take (i + 1)).map fun x => (x, f x) by rw [← List.take_append_getElem hiL, hLx, List.map_append]; rfl)
          have HH := Lib.hid (fun wz => leaf_rat X wz wz.heap.size rfl hXl)
          rw [← hfx] at HH
          have hb2 : b2 < w.heap.size := World.block_lt_of_cell? w _ hc2
          have HC2 := Lib.hid hc2
          have hlt : (LV.take i).length ≤ i := by rw [List.length_take]; omega
          have HLTI := Lib.hid hlt
          generalize LV.take i = LT at *
          clear hp hX hx hgl hfx hXl hiL hLx hiE hie hp64 hlt hc2
          go_upto_region 15 with (go_at_call 92; refine (HLf.out _).mono ?_; rintro e w' ⟨rfl, rfl⟩)
          go_upto_region 16 with (at_builtin; refine append_num rfl _ _ rfl rfl rfl HO.out (by have := HLTI.out; omega) HB.out.size ?_; intro v5 w5 ho5 hg5; have HO5 := Lib.hid ho5; have HB5 := Lib.hid (HB.out.grown hg5 HB.out.size (fun j e => row_low HO.out (Nat.le_refl _) j e)); have HK5 := Lib.hid (show PlcRow w.heap.size (LT.map fun x => (x, f x)) u13 w5 from HK.out.kept hg5 (own_apart2 HO.out HK.out (by decide))); have hc2 := (HB5.out.cell (p := ⟨b2, o2 + i, none⟩) hb2).trans HC2.out; clear ho5 hg5)
          go_wp2_with (first
            | (go_at_call 76; with_reducible refine (HH.out _).mono ?_; rintro e w6 ⟨rfl, hb6⟩; have HK6 := Lib.hid (plc_next HK5.out hb6); have HB6 := Lib.hid (below_next HB5.out hb6); have HO6 := Lib.hid (own_kept HO5.out (kept_all hb6) (fun _ _ => trivial)); clear hb6)
            | (at_builtin; refine append_plc (k := x) (t := f x) rfl _ _ rfl rfl rfl HK6.out (by rw [List.length_map]; have := HLTI.out; omega) HB6.out.size ?_; intro v7 w7 ho7 hg7; have HK7 := Lib.hid ho7; have HO7 := Lib.hid (HO6.out.kept hg7 (own_apart2 HK6.out HO6.out (by decide))); have HB7 := Lib.hid (HB6.out.grown hg7 HB6.out.size (fun j e => (plc_lt HK6.out j e).1)); clear ho7 hg7))
          go_roundw
          case rel => exact ⟨i + 1, by go_num, by omega, by rw [← HTK.out]; exact HO7, by rw [← HTK2.out]; exact HK7, HB7⟩
          case measure => simp [intOf] <;> omega
        · have hl : ¬ (i : Int) < (P.length : Int) := by omega
          have hil : LV.take i = LV := List.take_of_length_le (by rw [HLL.out]; omega)
          have hO := HO.out
          have hK := HK.out
          rw [hil] at hO hK
          have HK0 := Lib.hid hK
          obtain ⟨a12, c12, rfl, hn12, _⟩ := nums_of_row hO
          have HND := Lib.hid (refNeeds_any a12 c12 LV D wr hn12 (by rw [HLL.out]; omega) HL0.out hd16 HLT.out)
          clear hil hO hK hn12 HO HK hie HLF HLG
          go_upto_region 18 with (go_at_call 87; refine HND.out.mono ?_; rintro e w4 ⟨vN, rfl, ho4, hb4⟩; obtain ⟨aN, cN, rfl, _⟩ := ho4.rows HLT.out)
          have HO4 := Lib.hid (show Outs w.heap.size LV (.slice aN D cN) D w4 from ho4.low HB.out.size)
          have HK4 := Lib.hid (plc_next HK0.out hb4)
          have HB4 := Lib.hid (below_next HB.out hb4)
          have HOR := Lib.hid (fun wz (h : Outs w.heap.size LV (.slice aN D cN) D wz) => h.rows_at HLT.out)
          have HML := Lib.hid (needM_len LV D)
          have HPS := Lib.hid (fun i (h : i < (needM LV D).length) => pre_succ h)
          have HPB := Lib.hid (fun i (h : i ≤ D) => show pre (needM LV D) i ≤ 1000 * i from pre_bound (fun N hN => by
            obtain ⟨i, hi⟩ := List.getElem?_of_mem hN
            have h1 := need_le ((needs_M HLT.out).2 i N hi)
            have h2 : (upTo LV i).length = LV.length := by simp [upTo]
            have h3 := HLL.out
            omega) i (by rw [needM_len]; exact h))
          have HNA := Lib.hid (fun i (h : i < D) => needM_at (L := LV) (d := D) h)
          have HN1000 := Lib.hid (fun i (h : i < D) => show (needOf (upTo LV i) (2 ^ (D - i))).length ≤ 1000 by
            have h1 := need_le ((needs_M HLT.out).2 i _ (needM_at h))
            have h2 : (upTo LV i).length = LV.length := by simp [upTo]
            have h3 := HLL.out
            omega)
          have HN17 := Lib.hid (fun i (h : i < D) => show ∀ x ∈ needOf (upTo LV i) (2 ^ (D - i)), x < 131072 from fun x hx => by
            have h1 := List.mem_range.1 (List.mem_filter.1 hx).1
            have h2 : 2 ^ (D - i) ≤ 2 ^ 16 := Nat.pow_le_pow_right (by decide) (by omega)
            omega)
          have HUP := Lib.hid (fun i A (h : i < D) (hl : Lev LV D R f i A) hR => Lev.up (C := (needOf (upTo LV i) (2 ^ (D - i))).zip (R.drop (pre (needM LV D) i))) HLT.out h hl rfl hR)
          have HL00 := Lib.hid (show Lev LV D R f 0 (LV.map fun x => (x, f x)) from Lev.start rfl)
          have HG0 := Lib.hid (show GoodP (LV.map fun x => (x, f x)) from fun a ha => by
            obtain ⟨x, hx, rfl⟩ := List.mem_map.1 ha
            have h1 := HLT.out x hx
            have h2 : 2 ^ D ≤ 2 ^ 16 := Nat.pow_le_pow_right (by decide) hd16
            exact ⟨by show x < _; omega, HFL.out x⟩)
          have HA0 := Lib.hid (show (LV.map fun x => (x, f x)).length ≤ 1000 * (0 + 1) by rw [List.length_map, HLL.out]; omega)
          have HRO := Lib.hid (fun A (h : Lev LV D R f D A) => h.root HL0.out HLT.out)
          have d16 : (D : Int) ≤ 16 := by omega
          clear ho4 hb4 HB HB1 HND HK0
          generalize needM LV D = M at *
          generalize (LV.map fun x => (x, f x)) = A0 at *
          go_wp2
          go_loopw [17, 18] (fun v17 v18 wr => ∃ i : Nat, v17 = .int .i64 (pre M i : Int) ∧ v18 = .int .i64 (i : Int) ∧ i ≤ D ∧ w4 = wr) (fun _ vi _ => D - (intOf vi).toNat)
          case atStart => exact ⟨0, by rw [pre_zero]; rfl, rfl, Nat.zero_le _, rfl⟩
          case round =>
            obtain ⟨i, rfl, rfl, hi, rfl⟩ := hrel
            by_cases hie : i < D
            · have hl : (i : Int) < (D : Int) := by omega
              have i0 : (0 : Int) ≤ (i : Int) := by omega
              have hiM : i < M.length := by rw [HML.out]; exact hie
              obtain ⟨bN, oN, ai, ci, rfl, hcN, hdr⟩ := rows_at (HOR.out _ HO4.out) i hiM
              clear hdr
              have hp := HPS.out i hiM
              have hb := HPB.out i (by omega)
              have hnl := HPB.out (i + 1) hie
              obtain ⟨N, hNe⟩ : ∃ N, N = M[i].length := ⟨_, rfl⟩
              rw [← hNe] at hcN hp
              have p1 : (pre M i : Int) ≤ 100000 := by omega
              have p2 : (N : Int) ≤ 100000 := by omega
              have HP := Lib.hid hp
              generalize pre M i = q at *
              clear hNe hb hnl hp hiM
              go_wp2
              go_roundw
              case rel => exact ⟨i + 1, by rw [HP.out]; go_num, by go_num, hie, trivial⟩
              case measure => simp [intOf] <;> omega
            · have hl : ¬ (i : Int) < (D : Int) := by omega
              have hiD : i = D := by omega
              obtain ⟨q, hq⟩ : ∃ q, q = pre M D := ⟨_, rfl⟩
              have hqb := HPB.out D (Nat.le_refl _)
              have hV := HV2.out
              rw [hiD]
              rw [← hq] at hV hqb ⊢
              have q1 : (q : Int) ≤ 100000 := by omega
              have HQ := Lib.hid hq
              clear hq hqb hiD hie
              by_cases h1 : R.length < q
              · have g1 : (R.length : Int) < (q : Int) := by omega
                have he4 : sizeE R.length q = 4 := if_pos h1
                have HVE := Lib.hid (show V = ([], 4) by rw [hV, he4]; rfl)
                clear hV h1 he4
                go_wp2
                exact bodyPost_ret (v := .tuple #[.string ⟨#[]⟩, .int .i64 4]) (by simp [results, Tryz.results64, go_sem]) rfl ⟨by rw [HVE.out], HB4.out⟩
              · by_cases h2 : q < R.length
                · have g1 : ¬ (R.length : Int) < (q : Int) := by omega
                  have g2 : (R.length : Int) > (q : Int) := by omega
                  have he3 : sizeE R.length q = 3 := (if_neg h1).trans (if_pos h2)
                  have HVE := Lib.hid (show V = ([], 3) by rw [hV, he3]; rfl)
                  clear hV h1 h2 he3
                  go_wp2
                  exact bodyPost_ret (v := .tuple #[.string ⟨#[]⟩, .int .i64 3]) (by simp [results, Tryz.results64, go_sem]) rfl ⟨by rw [HVE.out], HB4.out⟩
                · have g1 : ¬ (R.length : Int) < (q : Int) := by omega
                  have g2 : ¬ (R.length : Int) > (q : Int) := by omega
                  have he0 : sizeE R.length q = 0 := (if_neg h1).trans (if_neg h2)
                  have HVE := Lib.hid (show V = (comesD LV D R f, 0) by rw [hV, he0]; rfl)
                  have HRQ := Lib.hid (show R.length = pre M D by rw [← HQ.out]; omega)
                  clear hV h1 h2 he0
                  go_wp2
                  clear g1 g2 q1 hl HPB HQ hi
                  go_loopw [3, 13, 19, 20, 21, 22, 23] (fun v3 v13 v19 _ _ _ _ wr => ∃ (i : Nat) (A : List (Nat × (List UInt8))) (po : Option Addr) (cp : Nat), v19 = .int .i64 (i : Int) ∧ i ≤ D ∧ v3 = .slice po (R.drop (pre M i)).length cp ∧ (R.drop (pre M i)).length ≤ cp ∧ A.length ≤ 1000 * (i + 1) ∧ Hid (Strs po (R.drop (pre M i)) w) ∧ Hid (PlcRow w.heap.size A v13 wr) ∧ Hid (Lev LV D R f i A ∧ GoodP A) ∧ Hid (Outs w.heap.size LV (.slice aN D cN) D wr) ∧ Hid (Below w.heap.size w wr)) (fun _ _ v19 _ _ _ _ _ => D - (intOf v19).toNat)
                  case atStart => exact ⟨0, A0, po, cp, rfl, Nat.zero_le _, by rw [pre_zero]; rfl, by rw [pre_zero]; exact hcp, HA0.out, by rw [pre_zero]; exact HR, HK4, Lib.hid ⟨HL00.out, HG0.out⟩, HO4, HB4⟩
                  case round =>
                    obtain ⟨i, A, po2, cp2, rfl, hi, rfl, hcp2, hA, HR2, HK, HL, HO, HB⟩ := hrel
                    by_cases hiD : i < D
                    · have hl : (i : Int) < (D : Int) := by omega
                      have i0 : (0 : Int) ≤ (i : Int) := by omega
                      have hiM : i < M.length := by rw [HML.out]; exact hiD
                      have hNM : M[i] = needOf (upTo LV i) (2 ^ (D - i)) := by
                        have h := HNA.out i hiD
                        rw [List.getElem?_eq_getElem hiM] at h
                        exact Option.some.inj h
                      have h1000 := HN1000.out i hiD
                      have H17 := Lib.hid (HN17.out i hiD)
                      have hPS := HPS.out i hiM
                      have HLU := Lib.hid (fun hR => HUP.out i A hiD HL.out.1 hR)
                      have hpm := pre_mono (M := M) (i := i + 1) (j := D) hiD (by rw [HML.out]; exact Nat.le_refl _)
                      have HRW := Lib.hid (fun wz (h : Outs w.heap.size LV (.slice aN D cN) D wz) => rows_at (HOR.out wz h) i hiM)
                      simp only [hNM] at HRW
                      rw [hNM] at hPS
                      generalize needOf (upTo LV i) (2 ^ (D - i)) = N at *
                      have HQL := Lib.hid (show N.length ≤ (R.drop (pre M i)).length by rw [List.length_drop]; have := HRQ.out; omega)
                      have HQN := Lib.hid (show (R.drop (pre M i)).drop N.length = R.drop (pre M (i + 1)) by rw [List.drop_drop, hPS])
                      have HLV2 := Lib.hid (HLU.out (by have := HRQ.out; omega))
                      have HQ32 := Lib.hid (show ∀ x ∈ R.drop (pre M i), x.length = 32 from fun x hx => all32_at H32.out x (List.mem_of_mem_drop hx))
                      have HGZ := Lib.hid (good_zip HL.out.2 H17.out HQ32.out)
                      have hzl : ((N.zip (R.drop (pre M i)))).length = N.length := by rw [List.length_zip]; have := HQL.out; omega
                      have HZL := Lib.hid hzl
                      have hnl : (N.length : Int) ≤ 1000 := by omega
                      generalize hQ : R.drop (pre M i) = Q at *
                      clear hNM hPS hpm h1000 hQ hzl hiM HLU
                      go_wp2
                      go_loopw [3, 13, 20] (fun v3 v13 v20 wr2 => ∃ (j : Nat) (po : Option Addr) (cp : Nat), v20 = .int .i64 (j : Int) ∧ j ≤ N.length ∧ v3 = .slice po (Q.drop j).length cp ∧ (Q.drop j).length ≤ cp ∧ Hid (Strs po (Q.drop j) w) ∧ Hid (PlcRow w.heap.size (A ++ (N.zip Q).take j) v13 wr2) ∧ Hid (Outs w.heap.size LV (.slice aN D cN) D wr2) ∧ Hid (Below w.heap.size w wr2)) (fun _ _ v20 _ => N.length - (intOf v20).toNat)
                      case atStart => exact ⟨0, po2, cp2, rfl, Nat.zero_le _, rfl, hcp2, HR2, Lib.hid (by rw [List.take_zero, List.append_nil]; exact HK.out), HO, HB⟩
                      case round =>
                        obtain ⟨j, po3, cp3, rfl, hj, rfl, hcp3, HR3, HK3, HO3, HB3⟩ := hrel
                        obtain ⟨bN, oN, ai, ci, hab, hcN, hrow⟩ := HRW.out _ HO3.out
                        by_cases hjN : j < N.length
                        · have hl2 : (j : Int) < (N.length : Int) := by omega
                          have j0 : (0 : Int) ≤ (j : Int) := by omega
                          subst hab
                          obtain ⟨bx, ox, rfl, hx⟩ := nums_at hrow j hjN
                          obtain ⟨X, hX1, hX2⟩ := drop_cons (R := Q) (k := j) (by have := HQL.out; omega)
                          have HZT := Lib.hid (zip_take (List.getElem?_eq_getElem hjN) hX2)
                          have hR3 := HR3.out
                          rw [hX1] at hR3 hcp3 ⊢
                          obtain ⟨x, hxe⟩ : ∃ x, x = N[j] := ⟨_, rfl⟩
                          rw [← hxe] at hx HZT
                          obtain ⟨bp, op, rfl, hpc⟩ := hR3.cell 0 (by simp)
                          rw [List.getElem_cons_zero, Nat.add_zero] at hpc
                          have hpc2 := (HB3.out.cell (p := ⟨bp, op, none⟩) (World.block_lt_of_cell? w _ hpc)).trans hpc
                          obtain ⟨m, hm⟩ : ∃ m, m = (Q.drop (j + 1)).length := ⟨_, rfl⟩
                          rw [List.length_cons, ← hm] at hcp3 ⊢
                          have n1' : (0 : Int) < (m : Int) + 1 := by omega
                          have n2' : (1 : Int) ≤ (m : Int) + 1 := by omega
                          have n3' : (m : Int) + 1 ≤ (cp3 : Int) := by omega
                          have HRn := Lib.hid (show Strs (if cp3 = 1 then some ⟨bp, op, none⟩ else some ⟨bp, op + 1, none⟩) (Q.drop (j + 1)) w by
                            by_cases hq : cp3 = 1
                            · exact .inl (List.length_eq_zero_iff.1 (by omega))
                            · rw [if_neg hq]; exact hR3.tail)
                          have HMM := Lib.hid hm
                          obtain ⟨T, hT⟩ : ∃ T, T = A ++ (N.zip Q).take j := ⟨_, rfl⟩
                          have hTl : T.length ≤ 20000 := by rw [hT, List.length_append, List.length_take]; have := HZL.out; omega
                          have HTE := Lib.hid (show T ++ [(x, X)] = A ++ (N.zip Q).take (j + 1) by rw [hT, List.append_assoc, HZT.out])
                          rw [← hT] at HK3
                          obtain ⟨i0, hi0, hz0, hz1, hz2⟩ := info_parts infoPl
                          have Q1 := Lib.hid (show T.length + 1 ≤ maxLen by unfold maxLen; omega)
                          have Q2 := Lib.hid (show (T.length + 1) * 24 ≤ 140737488355328 by omega)
                          have Q3 := Lib.hid (show w.heap.size ≤ ((wr.alloc (Obj.cells #[.int .u64 (x : Int), .string ⟨X.toArray⟩] 131)).drew).heap.size by simp; have := HB3.out.size; omega)
                          have Q4 := Lib.hid (show ((wr.alloc (Obj.cells #[.int .u64 (x : Int), .string ⟨X.toArray⟩] 131)).drew).heap.size = wr.heap.size + 1 by simp)
                          have HOW := Lib.hid (show PlcRow w.heap.size T u13 ((wr.alloc (Obj.cells #[.int .u64 (x : Int), .string ⟨X.toArray⟩] 131)).drew) from (HK3.out.alloc _).drew)
                          have HNW := Lib.hid (show ∀ q u, [Value.int .u64 (x : Int), .string ⟨X.toArray⟩][q]? = some u → ((wr.alloc (Obj.cells #[.int .u64 (x : Int), .string ⟨X.toArray⟩] 131)).drew).cell? ((⟨wr.heap.size, 0, none⟩ : Addr).add q) = some u from news_plc wr _ _)
                          have HJN := Lib.hid hjN
                          have hpc0 := hpc
                          clear hX1 hX2 hR3 hpc hxe hm hT hrow hjN hTl
                          go_wp2
                          go_region_law (refine step_append_lies _ (by rfl) (.tmp 114) (.tmp 126) 129 (by rfl) w.heap.size 131 i0 _ 2 24 Tryz.underlying129 hi0 hz0 hz1 hz2 rfl (by omega) u13 T.length _ (by rfl) HOW.out ⟨wr.heap.size, 0, none⟩ 1 1 [.int .u64 (x : Int), .string ⟨X.toArray⟩] (by rfl) (by rfl) HNW.out (by simp [Value.oneCell']) (by omega) Q1.out Q2.out Q3.out (wr.heap.size + 1) Q4.out ?_; intro gg cg w1 hown1 hgrow hat hgl)
                          all_goals
                            have HK4' := Lib.hid (show PlcRow w.heap.size (A ++ (N.zip Q).take (j + 1)) (.slice (some ⟨gg, 0, none⟩) (T.length + 1) cg) w1 by
                              rw [← HTE.out, PlcRow, plcC_app, List.length_append]; exact hown1)
                            have HO4' := Lib.hid ((HO3.out.next (by0 wr (Obj.cells #[.int .u64 (x : Int), .string ⟨X.toArray⟩] 131)).drew).beside HOW.out hgrow)
                            have HB4' := Lib.hid (show Below w.heap.size w w1 from (below_alloc HB3.out _).drew.grown hgrow Q3.out (fun q e => (plc_lt HOW.out q e).1))
                            have hpc3 := (HB4'.out.cell (p := ⟨bp, op, none⟩) (World.block_lt_of_cell? w _ hpc0)).trans hpc0
                            clear hown1 hgrow hat hgl
                            go_wp2
                            go_roundw
                            case rel => exact ⟨j + 1, _, cp3 - 1, by go_num, by have := HJN.out; omega, by rw [HMM.out], by rw [← HMM.out]; omega, HRn, HK4', HO4', HB4'⟩
                            case measure => simp [intOf] <;> (have := HJN.out; omega)
                        · have hl2 : ¬ (j : Int) < (N.length : Int) := by omega
                          have hjn : j = N.length := by omega
                          have hK3 := HK3.out
                          rw [List.take_of_length_le (by rw [HZL.out]; omega)] at hK3
                          obtain ⟨a13, c13, rfl, hat13⟩ := hK3.at_
                          subst hab
                          have he3 : Q.drop j = R.drop (pre M (i + 1)) := by rw [hjn, HQN.out]
                          have hR3 := HR3.out
                          rw [he3] at hR3 hcp3 ⊢
                          have HRE := Lib.hid hR3
                          obtain ⟨A2, hA2⟩ : ∃ A2, A2 = A ++ N.zip Q := ⟨_, rfl⟩
                          have hA2l : A2.length ≤ 1000 * (i + 1 + 1) := by rw [hA2, List.length_append, HZL.out]; omega
                          rw [← hA2] at hK3 HGZ HLV2 ⊢
                          have HAL := Lib.hid hA2l
                          have a2 : (A2.length : Int) ≤ 20000 := by omega
                          have HK5 := Lib.hid hK3
                          have HB5 := Lib.hid HB3.out
                          have HO5 := Lib.hid HO3.out
                          have HI := Lib.hid hiD
                          clear hA2l hat13 hR3 HR3 hA2 hjn he3 HK3 hK3 HQL HQ32 HZL hrow HRW HQN hj HB3 HO3 HK HO HB hA
                          go_wp2
                          clear hl2 hl hcN hnl
                          generalize wr = wa at *
                          go_loopw [21, 22, 23] (fun v21 v22 _ wr3 => ∃ t : Nat, v22 = .int .i64 (t : Int) ∧ t ≤ A2.length ∧ Hid (PlcRow wa.heap.size (overP A2 t) v21 wr3) ∧ Hid (Below wa.heap.size wa wr3)) (fun _ v22 _ _ => A2.length - (intOf v22).toNat)
                          case atStart => exact ⟨0, rfl, Nat.zero_le _, Lib.hid (plc_nil _ _), Lib.hid (Below.refl _ _)⟩
                          case round =>
                            obtain ⟨t, rfl, ht, HV, HW⟩ := hrel
                            by_cases htA : t < A2.length
                            · have hl3 : (t : Int) < (A2.length : Int) := by omega
                              have t0 : (0 : Int) ≤ (t : Int) := by omega
                              have HKW := Lib.hid (plc_next HK5.out HW.out)
                              obtain ⟨a14, c14, e14, hat⟩ := HKW.out.at_
                              cases e14
                              obtain ⟨g14, rfl, hk1, hk2⟩ := hat t htA
                              have hgood := (HGZ.out _ (List.getElem_mem htA)).1
                              have hov1 := over_hit (A := A2) htA
                              have hov2 := over_miss (A := A2) htA
                              obtain ⟨k, hk⟩ : ∃ k, k = (A2[t]).1 := ⟨_, rfl⟩
                              rw [← hk] at hk1 hgood hov1 hov2
                              obtain ⟨p, hp⟩ : ∃ p, p = k / 2 := ⟨_, rfl⟩
                              have hdiv : (k : Int) / 2 = (p : Int) := by omega
                              have p1 : (p : Int) ≤ 131072 := by omega
                              rw [← hp] at hov1 hov2
                              have HF1 := Lib.hid (find_any _ _ _ p wr HV.out (by have := over_len A2 t; omega))
                              have hlo := over_len A2 t
                              clear hat hk hp hgood hk2
                              by_cases hf : findP (overP A2 t) p = []
                              · have HOV := Lib.hid (hov1 hf)
                                rw [hf] at HF1
                                have HF2 := Lib.hid (find_any _ _ _ (2 * p) wr HKW.out (by omega))
                                have HF3 := Lib.hid (find_any _ _ _ (2 * p + 1) wr HKW.out (by omega))
                                have hfa := find_len HGZ.out (2 * p)
                                have hfb := find_len HGZ.out (2 * p + 1)
                                generalize findP A2 (2 * p) = X1 at *
                                generalize findP A2 (2 * p + 1) = X2 at *
                                rw [show ((2 * p : Nat) : Int) = 2 * (p : Int) by omega] at HF2
                                rw [show ((2 * p + 1 : Nat) : Int) = 2 * (p : Int) + 1 by omega] at HF3
                                have HH := Lib.hid (node_rat wr X1 X2 wr.heap.size rfl hfa hfb)
                                have hle : (overP A2 t).length ≤ 1000000 := by omega
                                have HLE5 := Lib.hid hle
                                clear hov1 hov2 hf hfa hfb hlo hle
                                go_wp2_with (first
                                  | (go_at_call 93; with_reducible refine HF1.out.mono ?_; rintro e w' ⟨rfl, rfl⟩)
                                  | (go_at_call 93; with_reducible refine HF2.out.mono ?_; rintro e w' ⟨rfl, rfl⟩)
                                  | (go_at_call 93; with_reducible refine HF3.out.mono ?_; rintro e w' ⟨rfl, rfl⟩)
                                  | (go_at_call 76; with_reducible refine HH.out.mono ?_; rintro e w6 ⟨rfl, hb6⟩; have HV6 := Lib.hid (plc_next HV.out hb6); have HW6 := Lib.hid (HW.out.trans (hb6.mono HW.out.size)); clear hb6)
                                  | (at_builtin; refine append_plc (k := p) (t := hashL nodeT [X1, X2]) rfl _ _ rfl rfl rfl HV6.out HLE5.out HW6.out.size ?_; intro v7 w7 ho7 hg7; have HV7 := Lib.hid ho7; have HW7 := Lib.hid (HW6.out.grown hg7 HW6.out.size (fun q e => (plc_lt HV6.out q e).1)); clear ho7 hg7))
                                go_roundw
                                case rel => exact ⟨t + 1, by go_num, by omega, by rw [HOV.out]; exact HV7, HW7⟩
                                case measure => simp [intOf] <;> omega
                              · have HOV := Lib.hid (hov2 hf)
                                have hemp : (findP (overP A2 t) p).isEmpty = false := by simpa using hf
                                generalize findP (overP A2 t) p = X1 at *
                                clear hov1 hov2 hf hlo
                                go_wp2_with (go_at_call 93; with_reducible refine HF1.out.mono ?_; rintro e w' ⟨rfl, rfl⟩)
                                go_roundw
                                case rel => exact ⟨t + 1, by go_num, by omega, by rw [HOV.out]; exact HV, HW⟩
                                case measure => simp [intOf] <;> omega
                            · have hl3 : ¬ (t : Int) < (A2.length : Int) := by omega
                              have htl : t = A2.length := by omega
                              have hVV := HV.out
                              rw [htl] at hVV
                              have HVV := Lib.hid (plc_low hVV HB5.out.size)
                              have HGG := Lib.hid (good_over HGZ.out A2.length)
                              have HOO := Lib.hid (HO5.out.next HW.out)
                              have HBB := Lib.hid (below_next HB5.out HW.out)
                              have hol := over_len A2 A2.length
                              have HLL := Lib.hid (show (overP A2 A2.length).length ≤ 1000 * (i + 1 + 1) by have := HAL.out; omega)
                              clear hVV htl hol htA
                              go_wp2
                              go_roundw
                              case rel => exact ⟨i + 1, overP A2 A2.length, _, _, by go_num, HI.out, by rw [List.length_drop], hcp3, HLL.out, HRE, HVV, Lib.hid ⟨HLV2.out, HGG.out⟩, HOO, HBB⟩
                              case measure => simp [intOf] <;> (have := HI.out; omega)
                    · have hl : ¬ (i : Int) < (D : Int) := by omega
                      have hie : i = D := by omega
                      have HF1 := Lib.hid (find_any _ _ _ 0 wr HK.out (by omega))
                      have HLD := HL.out.1
                      rw [hie] at HLD
                      rw [HRO.out A HLD, show ((0 : Nat) : Int) = 0 from rfl] at HF1
                      clear hie HLD
                      go_wp2_with (go_at_call 93; with_reducible refine HF1.out.mono ?_; rintro e w' ⟨rfl, rfl⟩)
                      exact bodyPost_ret (v := .tuple #[.string ⟨(comesD LV D R f).toArray⟩, .int .i64 0]) (by simp [results, Tryz.results64, go_sem]) rfl ⟨by rw [HVE.out], HB.out⟩
end Go.Proofs.YtmnklonoelpidaaGreatDoor
