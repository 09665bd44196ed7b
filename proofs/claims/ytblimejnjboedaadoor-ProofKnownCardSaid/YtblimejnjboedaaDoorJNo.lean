/- The law's ProofKnown. -/
import Derived.Test.YtblimejnjboedaaDoorJNd
import Derived.Test.YtblimejnjboedaaDoorJNn
import Derived.Test.YtblimejnjboedaaDoorJNi0
namespace Go.Proofs.YtblimejnjboedaaDoor
open Go.RowKit Go.Sort

/-- what is kept behind 'one' and 'a' -/
structure Kn (w : World) (b : Nat) (wz : World) : Prop where
  g : Glob wz
  o : Below w.heap.size w wz
  n : Nums (some ⟨b, 0, none⟩) [0] wz
  s : Strs (some ⟨b + 1, 0, none⟩) [[97]] wz
theorem Kn.next {w wz wa : World} {b : Nat} (h : Kn w b wz) (hb : Below wz.heap.size wz wa) : Kn w b wa := ⟨h.g.below h.g.size hb, below_next h.o hb, nums_next h.n hb, h.s.below (Nat.le_refl _) hb⟩
/-- and behind 'deep' -/
structure Kd (w : World) (b : Nat) (aD : Option Addr) (D : (List UInt8)) (wz : World) : Prop where
  k : Kn w b wz
  d : Strs aD (List.replicate 16 D) wz
theorem Kd.next {w wz wa : World} {b : Nat} {aD : Option Addr} {D : (List UInt8)} (h : Kd w b aD D wz) (hb : Below wz.heap.size wz wa) : Kd w b aD D wa := ⟨h.k.next hb, h.d.below (Nat.le_refl _) hb⟩
theorem check_lit (root : (List UInt8)) (n : Int) (P : List Nat) (E R : List (List UInt8)) (v : Int) (ao bo po : Option Addr) (wz wa : World) (hg : Glob wz) (hb : Below wz.heap.size wz wa) (hP : Nums ao P wa) (hE : Strs bo E wa) (hR : Strs po R wa) (hn : -100000 ≤ n ∧ n ≤ 100000) (hl : P.length ≤ 100 ∧ E.length ≤ 100 ∧ R.length ≤ 100) (he : ∀ x ∈ E, x.length ≤ 100) (hr : ∀ x ∈ R, x.length ≤ 100) (hV : checkV root n P E R = v) :
    Calls Tryd.prog 12 #[.string ⟨root.toArray⟩, .int .i64 n, .slice ao P.length P.length, .slice bo E.length E.length, .slice po R.length R.length] wa fun e w' => e = .returned (.int .i64 v) ∧ Below wz.heap.size wz w' := by
  have h := ocheck_any root n (by omega) P E R ao bo po P.length E.length R.length wa (hg.below hg.size hb) hP hE hR (by omega) (by omega) (Nat.le_refl _) (by omega) (fun i h => by have := he _ (List.getElem_mem h); omega) (fun i h => by have := hr _ (List.getElem_mem h); omega)
  rw [hV] at h
  exact h.mono fun e w' ⟨h1, h2⟩ => ⟨h1, below_next hb h2⟩
set_option maxRecDepth 100000 in
set_option maxHeartbeats 4000000 in
theorem proofKnown_any (w : World) (hg : Glob w) : Calls Tryd.prog 4 #[] w fun e w' => e = .returned (.bool true) ∧ Below w.heap.size w w' := by
  have hlD := hlen32 noneT [] (by decide)
  have hlA := hlen32 leafT [[97]] (by decide)
  have HHN := Lib.hid (show ∀ wz, Glob wz → Calls Tryd.prog 9 #[.string ⟨#[110, 111, 110, 101]⟩, .slice none 0 0] wz (fun e w' => e = .returned (.string ⟨(hashL noneT []).toArray⟩) ∧ Below wz.heap.size wz w') from fun wz h => hash_any noneT none 0 [] wz h (.inl rfl) (by decide) (by decide))
  have HHA := Lib.hid (show ∀ wz, Glob wz → Calls Tryd.prog 9 #[.string ⟨#[108, 101, 97, 102]⟩, .slice (some ⟨wz.heap.size, 0, none⟩) 1 1] (wz.alloc (.cells #[.string ⟨#[97]⟩] 9)) (fun e w' => e = .returned (.string ⟨(hashL leafT [[97]]).toArray⟩) ∧ Below wz.heap.size wz w') from fun wz h => hash1_any leafT [97] wz h (by decide) (by decide))
  have rdp := fun D hD => root_deep [97] D hD
  have rd2 := fun D hD => root_0of2 [97] D hD
  obtain ⟨D, hD⟩ : ∃ D, D = hashL noneT [] := ⟨_, rfl⟩
  obtain ⟨A, hA⟩ : ∃ A, A = hashL leafT [[97]] := ⟨_, rfl⟩
  rw [← hD] at hlD HHN
  rw [← hA] at hlA HHA
  replace rdp := rdp D hlD
  replace rd2 := rd2 D hlD
  rw [← hA] at rdp rd2
  have HUP := Lib.hid (fun i => upD_32 (a := A) (d := D) hlA i)
  have HND := Lib.hid (fun (i : Nat) wz (h : Glob wz) => show Calls Tryd.prog 9 #[.string ⟨#[110, 111, 100, 101]⟩, .slice (some ⟨wz.heap.size, 0, none⟩) 2 2] (wz.alloc (.cells #[.string ⟨(upD A D i).toArray⟩, .string ⟨D.toArray⟩] 9)) (fun e w' => e = .returned (.string ⟨(upD A D (i + 1)).toArray⟩) ∧ Below wz.heap.size wz w') from hash2_any nodeT (upD A D i) D wz h (by decide) (by have := HUP.out i; omega) (by omega))
  have HW := Lib.hid (fun b aD wz (h : Kd w b aD D wz) => works11_any wz h.k.g)
  have nil32 : ∀ x ∈ ([] : List (List UInt8)), x.length ≤ 100 := by simp
  have e97 : ∀ x ∈ ([[97]] : List (List UInt8)), x.length ≤ 100 := by simp
  have C1 := Lib.hid (show ∀ b aD wz, Kd w b aD D wz → Calls Tryd.prog 10 #[.int .i64 2, .int .i64 0, .slice (some ⟨b, 0, none⟩) 1 1, .slice (some ⟨b + 1, 0, none⟩) 1 1, .slice none 0 0] wz (fun e w' => e = .returned (.bool true) ∧ Below wz.heap.size wz w') from fun b aD wz h => fails_lit 2 0 [0] [[97]] [] _ _ none wz _ h.k.g (Below.refl _ _) h.k.n h.k.s (.inl rfl) (by decide) (by simp) e97 nil32 (bad_m _ _ _ _ (by decide +kernel)))
  have C2 := Lib.hid (show ∀ b aD wz, Kd w b aD D wz → Calls Tryd.prog 10 #[.int .i64 2, .int .i64 65537, .slice (some ⟨b, 0, none⟩) 1 1, .slice (some ⟨b + 1, 0, none⟩) 1 1, .slice none 0 0] wz (fun e w' => e = .returned (.bool true) ∧ Below wz.heap.size wz w') from fun b aD wz h => fails_lit 2 65537 [0] [[97]] [] _ _ none wz _ h.k.g (Below.refl _ _) h.k.n h.k.s (.inl rfl) (by decide) (by simp) e97 nil32 (bad_m _ _ _ _ (by decide +kernel)))
  have C3 := Lib.hid (show ∀ b aD wz, Kd w b aD D wz → Calls Tryd.prog 10 #[.int .i64 2, .int .i64 (-1), .slice (some ⟨b, 0, none⟩) 1 1, .slice (some ⟨b + 1, 0, none⟩) 1 1, .slice none 0 0] wz (fun e w' => e = .returned (.bool true) ∧ Below wz.heap.size wz w') from fun b aD wz h => fails_lit 2 (-1) [0] [[97]] [] _ _ none wz _ h.k.g (Below.refl _ _) h.k.n h.k.s (.inl rfl) (by decide) (by simp) e97 nil32 (bad_m _ _ _ _ (by decide +kernel)))
  have C4 := Lib.hid (show ∀ b aD wz, Kd w b aD D wz → Calls Tryd.prog 10 #[.int .i64 2, .int .i64 2, .slice none 0 0, .slice none 0 0, .slice (some ⟨wz.heap.size, 0, none⟩) 1 1] (wz.alloc (.cells #[.string ⟨D.toArray⟩] 9)) (fun e w' => e = .returned (.bool true) ∧ Below wz.heap.size wz w') from fun b aD wz h => fails_lit 2 2 [] [] [D] none none _ wz _ h.k.g (by0 wz _) (.inl rfl) (.inl rfl) (strs_new wz [D] _ rfl) (by decide) (by simp) nil32 (by simp; omega) (bad_m _ _ _ _ (by decide +kernel)))
  have C5 := Lib.hid (show ∀ b aD wz, Kd w b aD D wz → Calls Tryd.prog 10 #[.int .i64 2, .int .i64 2, .slice (some ⟨wz.heap.size, 0, none⟩) 2 2, .slice (some ⟨wz.heap.size + 1, 0, none⟩) 2 2, .slice none 0 0] ((wz.alloc (.cells #[.int .u64 1, .int .u64 0] 33)).alloc (.cells #[.string ⟨#[97]⟩, .string ⟨#[98]⟩] 9)) (fun e w' => e = .returned (.bool true) ∧ Below wz.heap.size wz w') from fun b aD wz h => fails_lit 2 2 [1, 0] [[97], [98]] [] _ _ none wz _ h.k.g (below_alloc (by0 wz _) _) (nums_lit (lit_old _ (heap_alloc_new wz _)) rfl) (by have := strs_new (wz.alloc (.cells #[.int .u64 1, .int .u64 0] 33)) [[97], [98]] _ rfl; rwa [World.size_alloc] at this) (.inl rfl) (by decide) (by simp) (by simp) nil32 (bad_m _ _ _ _ (by decide +kernel)))
  have C6 := Lib.hid (show ∀ b aD wz, Kd w b aD D wz → Calls Tryd.prog 10 #[.int .i64 2, .int .i64 2, .slice (some ⟨b, 0, none⟩) 1 1, .slice none 0 0, .slice (some ⟨wz.heap.size, 0, none⟩) 1 1] (wz.alloc (.cells #[.string ⟨#[120]⟩] 9)) (fun e w' => e = .returned (.bool true) ∧ Below wz.heap.size wz w') from fun b aD wz h => fails_lit 2 2 [0] [] [[120]] _ none _ wz _ h.k.g (by0 wz _) (nums_next h.k.n (by0 wz _)) (.inl rfl) (strs_new wz [[120]] _ rfl) (by decide) (by simp) nil32 (by simp) (root_bad (.inr (by decide))))
  have C7 := Lib.hid (show ∀ b aD wz, Kd w b aD D wz → Calls Tryd.prog 10 #[.int .i64 5, .int .i64 2, .slice (some ⟨b, 0, none⟩) 1 1, .slice (some ⟨b + 1, 0, none⟩) 1 1, .slice (some ⟨wz.heap.size, 0, none⟩) 3 3] (wz.alloc (.cells #[.string ⟨D.toArray⟩, .string ⟨D.toArray⟩, .string ⟨#[120]⟩] 9)) (fun e w' => e = .returned (.bool true) ∧ Below wz.heap.size wz w') from fun b aD wz h => fails_lit 5 2 [0] [[97]] [D, D, [120]] _ _ _ wz _ h.k.g (by0 wz _) (nums_next h.k.n (by0 wz _)) (h.k.s.below (Nat.le_refl _) (by0 wz _)) (strs_new wz [D, D, [120]] _ rfl) (by decide) (by simp) e97 (by simp; omega) (root_2f [97] D))
  have C8 := Lib.hid (show ∀ b aD wz, Kd w b aD D wz → Calls Tryd.prog 10 #[.int .i64 4, .int .i64 2, .slice (some ⟨b, 0, none⟩) 1 1, .slice (some ⟨b + 1, 0, none⟩) 1 1, .slice none 0 0] wz (fun e w' => e = .returned (.bool true) ∧ Below wz.heap.size wz w') from fun b aD wz h => fails_lit 4 2 [0] [[97]] [] _ _ none wz _ h.k.g (Below.refl _ _) h.k.n h.k.s (.inl rfl) (by decide) (by simp) e97 nil32 (root_2s [97]))
  have HD9 := Lib.hid (fun b aD cD wz (h : Kd w b aD D wz) (hc : (List.replicate 16 D).length ≤ cD) => is_any (upD A D 16) (65536 : Nat) (by decide) [0] [[97]] (List.replicate 16 D) (some ⟨b, 0, none⟩) (some ⟨b + 1, 0, none⟩) aD 1 1 cD wz h.k.g h.k.n h.k.s h.d (by decide) (by decide) hc (by simp) (by simp) (fun i h => by have h1 := List.getElem_mem h; have h2 := List.eq_of_mem_replicate h1; rw [h2]; omega))
  rw [decide_eq_true rdp, List.length_replicate] at HD9
  have HD10 := Lib.hid (fun b aD cD wz (h : Kd w b aD D wz) (hc : (List.replicate 16 D).length ≤ cD) => fails_any 2 (65536 : Nat) (by decide) [65536] [[97]] (List.replicate 16 D) (some ⟨wz.heap.size, 0, none⟩) (some ⟨b + 1, 0, none⟩) aD 1 1 cD (wz.alloc (.cells #[.int .u64 65536] 33)) (h.k.g.below h.k.g.size (by0 wz _)) (nums_lit (heap_alloc_new wz _) rfl) (h.k.s.below (Nat.le_refl _) (by0 wz _)) (h.d.below (Nat.le_refl _) (by0 wz _)) (by decide) (by decide) hc (by simp) (by simp) (fun i h => by have h1 := List.getElem_mem h; have h2 := List.eq_of_mem_replicate h1; rw [h2]; omega) (bad_m _ _ _ _ (by decide +kernel)))
  rw [List.length_replicate] at HD10
  have HC9 := Lib.hid (show ∀ b aD cD wz, Kd w b aD D wz → 16 ≤ cD → Calls Tryd.prog 11 #[.string ⟨(upD A D 16).toArray⟩, .int .i64 65536, .slice (some ⟨b, 0, none⟩) 1 1, .slice (some ⟨b + 1, 0, none⟩) 1 1, .slice aD 16 cD] wz (fun e w' => e = .returned (.bool true) ∧ Below wz.heap.size wz w') from fun b aD cD wz h hc => HD9.out b aD cD wz h hc)
  have HC10 := Lib.hid (show ∀ b aD cD wz, Kd w b aD D wz → 16 ≤ cD → Calls Tryd.prog 10 #[.int .i64 2, .int .i64 65536, .slice (some ⟨wz.heap.size, 0, none⟩) 1 1, .slice (some ⟨b + 1, 0, none⟩) 1 1, .slice aD 16 cD] (wz.alloc (.cells #[.int .u64 65536] 33)) (fun e w' => e = .returned (.bool true) ∧ Below wz.heap.size wz w') from fun b aD cD wz h hc => (HD10.out b aD cD wz h hc).mono fun e w' h1 => ⟨h1.1, below_next (by0 _ _) h1.2⟩)
  clear HD9 HD10
  have hZ1 : hashL nodeT [A, D] ≠ [] := node_ne _
  have C11 := Lib.hid (show ∀ b aD wz, Kd w b aD D wz → Calls Tryd.prog 12 #[.string ⟨#[]⟩, .int .i64 2, .slice (some ⟨b, 0, none⟩) 1 1, .slice (some ⟨b + 1, 0, none⟩) 1 1, .slice (some ⟨wz.heap.size, 0, none⟩) 1 1] (wz.alloc (.cells #[.string ⟨D.toArray⟩] 9)) (fun e w' => e = .returned (.int .i64 20) ∧ Below wz.heap.size wz w') from fun b aD wz h => check_lit [] 2 [0] [[97]] [D] 20 _ _ _ wz _ h.k.g (by0 wz _) (nums_next h.k.n (by0 wz _)) (h.k.s.below (Nat.le_refl _) (by0 wz _)) (strs_new wz [D] _ rfl) (by decide) (by simp) e97 (by simp; omega) ((check_of rd2).trans (by rw [if_neg (by simp), if_neg hZ1])))
  have C12 := Lib.hid (show ∀ b aD wz, Kd w b aD D wz → Calls Tryd.prog 12 #[.string ⟨#[]⟩, .int .i64 2, .slice (some ⟨b, 0, none⟩) 1 1, .slice (some ⟨b + 1, 0, none⟩) 1 1, .slice none 0 0] wz (fun e w' => e = .returned (.int .i64 4) ∧ Below wz.heap.size wz w') from fun b aD wz h => check_lit [] 2 [0] [[97]] [] 4 _ _ none wz _ h.k.g (Below.refl _ _) h.k.n h.k.s (.inl rfl) (by decide) (by simp) e97 nil32 ((check_of (root_2s [97])).trans (by rw [if_pos (by simp)])))
  have C13 := Lib.hid (show ∀ b aD wz, Kd w b aD D wz → Calls Tryd.prog 12 #[.string ⟨(hashL nodeT [A, D]).toArray⟩, .int .i64 2, .slice (some ⟨b, 0, none⟩) 1 1, .slice (some ⟨b + 1, 0, none⟩) 1 1, .slice (some ⟨wz.heap.size, 0, none⟩) 1 1] (wz.alloc (.cells #[.string ⟨D.toArray⟩] 9)) (fun e w' => e = .returned (.int .i64 0) ∧ Below wz.heap.size wz w') from fun b aD wz h => check_lit (hashL nodeT [A, D]) 2 [0] [[97]] [D] 0 _ _ _ wz _ h.k.g (by0 wz _) (nums_next h.k.n (by0 wz _)) (h.k.s.below (Nat.le_refl _) (by0 wz _)) (strs_new wz [D] _ rfl) (by decide) (by simp) e97 (by simp; omega) ((check_of rd2).trans (by rw [if_neg (by simp), if_pos rfl])))
  have C14 := Lib.hid (show ∀ b aD wz, Kd w b aD D wz → Calls Tryd.prog 9 #[.string ⟨#[110, 111, 100, 101]⟩, .slice (some ⟨wz.heap.size, 0, none⟩) 2 2] (wz.alloc (.cells #[.string ⟨A.toArray⟩, .string ⟨D.toArray⟩] 9)) (fun e w' => e = .returned (.string ⟨(hashL nodeT [A, D]).toArray⟩) ∧ Below wz.heap.size wz w') from fun b aD wz h => hash2_any nodeT A D wz h.k.g (by decide) (by omega) (by omega))
  have C15 := Lib.hid (fun b aD wz (h : Kd w b aD D wz) => HHA.out wz h.k.g)
  generalize hashL nodeT [A, D] = Z1 at *
  have HG := Lib.hid (show Wl w w from ⟨hg, Below.refl _ _⟩)
  clear hg hD hA rdp rd2 hZ1
  go_enter Tryd.func4, Tryd.ntmps4
  go_upto_region 2 with (go_at_call 9; refine (HHN.out _ HG.out.g).mono ?_; rintro e w1 ⟨rfl, hb1⟩; have HG := Lib.hid (HG.out.next hb1); clear hb1)
  go_upto_region 3 with fail
  have KN := Lib.hid (show Kn w w1.heap.size ((w1.alloc (.cells #[.int .u64 0] 33)).alloc (.cells #[.string ⟨#[97]⟩] 9)) from
    ⟨HG.out.g.below HG.out.g.size (below_alloc (by0 w1 _) _), below_next HG.out.o (below_alloc (by0 w1 _) _), nums_lit (lit_old _ (heap_alloc_new w1 _)) rfl, by have := strs_new (w1.alloc (.cells #[.int .u64 0] 33)) [[97]] _ rfl; rwa [World.size_alloc] at this⟩)
  generalize ((w1.alloc (.cells #[.int .u64 0] 33)).alloc (.cells #[.string ⟨#[97]⟩] 9)) = w2 at *
  generalize w1.heap.size = b at *
  go_upto_region 5 with (go_at_call 9; refine (HHA.out _ KN.out.g).mono ?_; rintro e w3 ⟨rfl, hb3⟩; have KN := Lib.hid (KN.out.next hb3); clear hb3)
  go_wp2
  go_loopw [4, 5, 6] (fun v4 v5 v6 wr => ∃ i : Nat, v6 = .int .i64 (i : Int) ∧ i ≤ 16 ∧ v5 = .string ⟨(upD A D i).toArray⟩ ∧ Hid (TRow w3.heap.size (List.replicate i D) v4 wr) ∧ Hid (Below w3.heap.size w3 wr)) (fun _ _ v6 _ => 16 - (intOf v6).toNat)
  case atStart => exact ⟨0, rfl, by omega, rfl, Lib.hid (trow_nil _ _), Lib.hid (Below.refl _ _)⟩
  case round =>
    obtain ⟨i, rfl, hi, rfl, HT, HB⟩ := hrel
    by_cases hlt : i < 16
    · have hl : (i : Int) < 16 := by omega
      have i0 : (0 : Int) ≤ (i : Int) := by omega
      go_wp2_with (first
        | (at_builtin; refine append_txt (t := D) rfl _ _ rfl rfl rfl HT.out (by rw [List.length_replicate]; omega) HB.out.size ?_; intro g5 c5 w5 ho5 hg5 _; have HO5 := Lib.hid ho5; have HB5 := Lib.hid (HB.out.grown hg5 HB.out.size (fun j e => (HT.out.lt j e).1)); clear ho5 hg5)
        | (go_at_call 9; refine (HND.out i _ (KN.out.next HB5.out).g).mono ?_; rintro e w6 ⟨rfl, hb6⟩; have HO6 := Lib.hid (trow_next HO5.out hb6); have HB6 := Lib.hid (below_next HB5.out hb6); clear hb6))
      go_roundw
      case rel => exact ⟨i + 1, by go_num, by omega, rfl, by rw [List.replicate_succ']; rw [List.length_replicate] at HO6; exact HO6, HB6⟩
      case measure => simp [intOf] <;> omega
    · have hl : ¬ (i : Int) < 16 := by omega
      have hie : i = 16 := by omega
      have hT := HT.out
      rw [hie] at hT
      obtain ⟨aD, cD, e4, hs4, hc4⟩ := strs_cap_of_row hT
      subst e4
      rw [hie]
      have KD := Lib.hid (show Kd w b aD D wr from ⟨KN.out.next HB.out, hs4⟩)
      have HCD := Lib.hid hc4
      rw [List.length_replicate] at HCD
      clear hie hT hs4 hc4 HT HB HND KN
      generalize upD A D 16 = W16 at *
      rw [List.length_replicate]
      go_wp2_with (first
        | (go_at_call 10; with_reducible refine (C1.out _ _ _ KD.out).mono ?_; rintro e wn ⟨rfl, bn⟩; have KD := Lib.hid (KD.out.next bn))
        | (go_at_call 10; with_reducible refine (C2.out _ _ _ KD.out).mono ?_; rintro e wn ⟨rfl, bn⟩; have KD := Lib.hid (KD.out.next bn))
        | (go_at_call 10; with_reducible refine (C3.out _ _ _ KD.out).mono ?_; rintro e wn ⟨rfl, bn⟩; have KD := Lib.hid (KD.out.next bn))
        | (go_at_call 10; with_reducible refine (C4.out _ _ _ KD.out).mono ?_; rintro e wn ⟨rfl, bn⟩; have KD := Lib.hid (KD.out.next bn))
        | (go_at_call 10; with_reducible refine (C5.out _ _ _ KD.out).mono ?_; rintro e wn ⟨rfl, bn⟩; have KD := Lib.hid (KD.out.next bn))
        | (go_at_call 10; with_reducible refine (C6.out _ _ _ KD.out).mono ?_; rintro e wn ⟨rfl, bn⟩; have KD := Lib.hid (KD.out.next bn))
        | (go_at_call 10; with_reducible refine (C7.out _ _ _ KD.out).mono ?_; rintro e wn ⟨rfl, bn⟩; have KD := Lib.hid (KD.out.next bn))
        | (go_at_call 10; with_reducible refine (C8.out _ _ _ KD.out).mono ?_; rintro e wn ⟨rfl, bn⟩; have KD := Lib.hid (KD.out.next bn))
        | (go_at_call 12; with_reducible refine (C11.out _ _ _ KD.out).mono ?_; rintro e wn ⟨rfl, bn⟩; have KD := Lib.hid (KD.out.next bn))
        | (go_at_call 12; with_reducible refine (C12.out _ _ _ KD.out).mono ?_; rintro e wn ⟨rfl, bn⟩; have KD := Lib.hid (KD.out.next bn))
        | (go_at_call 12; with_reducible refine (C13.out _ _ _ KD.out).mono ?_; rintro e wn ⟨rfl, bn⟩; have KD := Lib.hid (KD.out.next bn))
        | (go_at_call 9; with_reducible refine (C14.out _ _ _ KD.out).mono ?_; rintro e wn ⟨rfl, bn⟩; have KD := Lib.hid (KD.out.next bn))
        | (go_at_call 9; with_reducible refine (C15.out _ _ _ KD.out).mono ?_; rintro e wn ⟨rfl, bn⟩; have KD := Lib.hid (KD.out.next bn))
        | (go_at_call 8; with_reducible refine (HW.out _ _ _ KD.out).mono ?_; rintro e wn ⟨rfl, bn⟩; have KD := Lib.hid (KD.out.next bn))
        | (go_at_call 11; with_reducible refine (HC9.out _ _ _ _ KD.out HCD.out).mono ?_; rintro e wn ⟨rfl, bn⟩; have KD := Lib.hid (KD.out.next bn))
        | (go_at_call 10; with_reducible refine (HC10.out _ _ _ _ KD.out HCD.out).mono ?_; rintro e wn ⟨rfl, bn⟩; have KD := Lib.hid (KD.out.next bn)))
      exact bodyPost_ret (v := .bool true) (by simp [results, Tryd.results4, go_sem]) rfl ⟨rfl, KD.out.k.o⟩
end Go.Proofs.YtblimejnjboedaaDoor
