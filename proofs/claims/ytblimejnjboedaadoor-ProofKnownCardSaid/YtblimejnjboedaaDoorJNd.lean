/- The law's works: the chapter's examples. -/
import Derived.Test.YtblimejnjboedaaDoorJNc
namespace Go.Proofs.YtblimejnjboedaaDoor
open Go.RowKit Go.Sort

/-- what is kept behind 'one' and 'bb' -/
structure Wk4 (w : World) (b : Nat) (wz : World) : Prop where
  g : Glob wz
  o : Below w.heap.size w wz
  n : Nums (some ⟨b, 0, none⟩) [1] wz
  s : Strs (some ⟨b + 1, 0, none⟩) [[98]] wz
theorem Wk4.next {w wz wa : World} {b : Nat} (h : Wk4 w b wz) (hb : Below wz.heap.size wz wa) : Wk4 w b wa := ⟨h.g.below h.g.size hb, below_next h.o hb, nums_next h.n hb, h.s.below (Nat.le_refl _) hb⟩
set_option maxRecDepth 100000 in
set_option maxHeartbeats 4000000 in
theorem works11_any (w : World) (hg : Glob w) : Calls Tryd.prog 8 #[] w fun e w' => e = .returned (.bool true) ∧ Below w.heap.size w w' := by
  have hlA := hlen32 leafT [[97]] (by decide)
  have hlB := hlen32 leafT [[98]] (by decide)
  have hlC := hlen32 leafT [[99]] (by decide)
  have hlN := hlen32 noneT [] (by decide)
  have r0 := root_0of1 [97]
  have r1 := fun N A hN hA => root_1of3 [98] N A hN hA
  have r3 := fun N hN => root_3of3 [97] [98] [99] N hN
  obtain ⟨A, hA⟩ : ∃ A, hashL leafT [[97]] = A := ⟨_, rfl⟩
  obtain ⟨B, hB⟩ : ∃ B, hashL leafT [[98]] = B := ⟨_, rfl⟩
  obtain ⟨C, hC⟩ : ∃ C, hashL leafT [[99]] = C := ⟨_, rfl⟩
  obtain ⟨N, hN⟩ : ∃ N, hashL noneT [] = N := ⟨_, rfl⟩
  rw [hA] at r0 hlA
  rw [hB] at hlB
  rw [hC] at hlC
  rw [hN] at hlN
  simp only [hB] at r1
  simp only [hA, hB, hC] at r3
  have hlQ1 := hlen32 nodeT [A, C] (by decide)
  have HQ1 := Lib.hid (show ∀ wz, Wl w wz → Calls Tryd.prog 9 #[.string ⟨#[110, 111, 100, 101]⟩, .slice (some ⟨wz.heap.size, 0, none⟩) 2 2] (wz.alloc (.cells #[.string ⟨A.toArray⟩, .string ⟨C.toArray⟩] 9)) (fun e w' => e = .returned (.string ⟨(hashL nodeT [A, C]).toArray⟩) ∧ Below wz.heap.size wz w') from fun wz h => hash2_any nodeT A C wz h.g (by decide) (by omega) (by omega))
  have hlQ2 := hlen32 nodeT [B, N] (by decide)
  have HQ2 := Lib.hid (show ∀ wz, Wl w wz → Calls Tryd.prog 9 #[.string ⟨#[110, 111, 100, 101]⟩, .slice (some ⟨wz.heap.size, 0, none⟩) 2 2] (wz.alloc (.cells #[.string ⟨B.toArray⟩, .string ⟨N.toArray⟩] 9)) (fun e w' => e = .returned (.string ⟨(hashL nodeT [B, N]).toArray⟩) ∧ Below wz.heap.size wz w') from fun wz h => hash2_any nodeT B N wz h.g (by decide) (by omega) (by omega))
  have h1 := r1 N (hashL nodeT [A, C]) hlN hlQ1
  have h3 := r3 N hlN
  generalize hashL nodeT [A, C] = Q1 at *
  generalize hashL nodeT [B, N] = Q2 at *
  have hlQ3 := hlen32 nodeT [Q1, Q2] (by decide)
  have HQ3 := Lib.hid (show ∀ wz, Wl w wz → Calls Tryd.prog 9 #[.string ⟨#[110, 111, 100, 101]⟩, .slice (some ⟨wz.heap.size, 0, none⟩) 2 2] (wz.alloc (.cells #[.string ⟨Q1.toArray⟩, .string ⟨Q2.toArray⟩] 9)) (fun e w' => e = .returned (.string ⟨(hashL nodeT [Q1, Q2]).toArray⟩) ∧ Below wz.heap.size wz w') from fun wz h => hash2_any nodeT Q1 Q2 wz h.g (by decide) (by omega) (by omega))
  generalize hashL nodeT [Q1, Q2] = Q3 at *
  have HHA := Lib.hid (show ∀ wz, Wl w wz → Calls Tryd.prog 9 #[.string ⟨#[108, 101, 97, 102]⟩, .slice (some ⟨wz.heap.size, 0, none⟩) 1 1] (wz.alloc (.cells #[.string ⟨#[97]⟩] 9)) (fun e w' => e = .returned (.string ⟨(hashL leafT [[97]]).toArray⟩) ∧ Below wz.heap.size wz w') from fun wz h => hash1_any leafT [97] wz h.g (by decide) (by decide))
  rw [hA] at HHA
  have HHB := Lib.hid (show ∀ wz, Wl w wz → Calls Tryd.prog 9 #[.string ⟨#[108, 101, 97, 102]⟩, .slice (some ⟨wz.heap.size, 0, none⟩) 1 1] (wz.alloc (.cells #[.string ⟨#[98]⟩] 9)) (fun e w' => e = .returned (.string ⟨(hashL leafT [[98]]).toArray⟩) ∧ Below wz.heap.size wz w') from fun wz h => hash1_any leafT [98] wz h.g (by decide) (by decide))
  rw [hB] at HHB
  have HHC := Lib.hid (show ∀ wz, Wl w wz → Calls Tryd.prog 9 #[.string ⟨#[108, 101, 97, 102]⟩, .slice (some ⟨wz.heap.size, 0, none⟩) 1 1] (wz.alloc (.cells #[.string ⟨#[99]⟩] 9)) (fun e w' => e = .returned (.string ⟨(hashL leafT [[99]]).toArray⟩) ∧ Below wz.heap.size wz w') from fun wz h => hash1_any leafT [99] wz h.g (by decide) (by decide))
  rw [hC] at HHC
  have HHN := Lib.hid (show ∀ wz, Wl w wz → Calls Tryd.prog 9 #[.string ⟨#[110, 111, 110, 101]⟩, .slice none 0 0] wz (fun e w' => e = .returned (.string ⟨(hashL noneT []).toArray⟩) ∧ Below wz.heap.size wz w') from fun wz h => hash_any noneT none 0 [] wz h.g (.inl rfl) (by decide) (by decide))
  rw [hN] at HHN
  have K := Lib.hid (show Wl w w from ⟨hg, Below.refl _ _⟩)
  -- the calls behind 'one' and 'bb'
  have nil32 : ∀ x ∈ ([] : List (List UInt8)), x.length ≤ 100 := by simp
  have e98 : ∀ x ∈ ([[98]] : List (List UInt8)), x.length ≤ 100 := by simp
  have HI1 := Lib.hid (show ∀ b wz, Wk4 w b wz → Calls Tryd.prog 11 #[.string ⟨Q3.toArray⟩, .int .i64 3, .slice (some ⟨b, 0, none⟩) 1 1, .slice (some ⟨b + 1, 0, none⟩) 1 1, .slice (some ⟨wz.heap.size, 0, none⟩) 2 2] (wz.alloc (.cells #[.string ⟨N.toArray⟩, .string ⟨Q1.toArray⟩] 9)) (fun e w' => e = .returned (.bool true) ∧ Below wz.heap.size wz w') from fun b wz h => is_lit Q3 3 [1] [[98]] [N, Q1] _ _ _ wz _ h.g (by0 wz _) (nums_next h.n (by0 wz _)) (h.s.below (Nat.le_refl _) (by0 wz _)) (strs_new wz [N, Q1] _ rfl) (by decide) (by simp) e98 (by simp; omega) h1)
  have HI2 := Lib.hid (show ∀ b wz, Wk4 w b wz → Calls Tryd.prog 11 #[.string ⟨A.toArray⟩, .int .i64 1, .slice (some ⟨wz.heap.size, 0, none⟩) 1 1, .slice (some ⟨wz.heap.size + 1, 0, none⟩) 1 1, .slice none 0 0] ((wz.alloc (.cells #[.int .u64 0] 33)).alloc (.cells #[.string ⟨#[97]⟩] 9)) (fun e w' => e = .returned (.bool true) ∧ Below wz.heap.size wz w') from fun b wz h => is_lit A 1 [0] [[97]] [] _ _ none wz _ h.g (below_alloc (by0 wz _) _) (nums_lit (lit_old _ (heap_alloc_new wz _)) rfl) (by have := strs_new (wz.alloc (.cells #[.int .u64 0] 33)) [[97]] _ rfl; rwa [World.size_alloc] at this) (.inl rfl) (by decide) (by simp) (by simp) nil32 r0)
  have HI3 := Lib.hid (show ∀ b wz, Wk4 w b wz → Calls Tryd.prog 11 #[.string ⟨Q3.toArray⟩, .int .i64 3, .slice (some ⟨wz.heap.size, 0, none⟩) 3 3, .slice (some ⟨wz.heap.size + 1, 0, none⟩) 3 3, .slice (some ⟨wz.heap.size + 1 + 1, 0, none⟩) 1 1] (((wz.alloc (.cells #[.int .u64 0, .int .u64 1, .int .u64 2] 33)).alloc (.cells #[.string ⟨#[97]⟩, .string ⟨#[98]⟩, .string ⟨#[99]⟩] 9)).alloc (.cells #[.string ⟨N.toArray⟩] 9)) (fun e w' => e = .returned (.bool true) ∧ Below wz.heap.size wz w') from fun b wz h => is_lit Q3 3 [0, 1, 2] [[97], [98], [99]] [N] _ _ _ wz _ h.g (below_alloc (below_alloc (by0 wz _) _) _) (nums_lit (lit_old _ (lit_old _ (heap_alloc_new wz _))) rfl)
    (by have := (strs_new (wz.alloc (.cells #[.int .u64 0, .int .u64 1, .int .u64 2] 33)) [[97], [98], [99]] _ rfl).below (Nat.le_refl _) (by0 _ (.cells #[.string ⟨N.toArray⟩] 9)); rwa [World.size_alloc] at this)
    (by have := strs_new ((wz.alloc (.cells #[.int .u64 0, .int .u64 1, .int .u64 2] 33)).alloc (.cells #[.string ⟨#[97]⟩, .string ⟨#[98]⟩, .string ⟨#[99]⟩] 9)) [N] _ rfl; rwa [World.size_alloc, World.size_alloc] at this) (by decide) (by simp) (by simp) (by simp; omega) h3)
  have HF1 := Lib.hid (show ∀ b wz, Wk4 w b wz → Calls Tryd.prog 10 #[.int .i64 4, .int .i64 3, .slice (some ⟨b, 0, none⟩) 1 1, .slice (some ⟨b + 1, 0, none⟩) 1 1, .slice (some ⟨wz.heap.size, 0, none⟩) 1 1] (wz.alloc (.cells #[.string ⟨N.toArray⟩] 9)) (fun e w' => e = .returned (.bool true) ∧ Below wz.heap.size wz w') from fun b wz h => fails_lit 4 3 [1] [[98]] [N] _ _ _ wz _ h.g (by0 wz _) (nums_next h.n (by0 wz _)) (h.s.below (Nat.le_refl _) (by0 wz _)) (strs_new wz [N] _ rfl) (by decide) (by simp) e98 (by simp; omega) (root_short [98] N hlN))
  have HF2 := Lib.hid (show ∀ b wz, Wk4 w b wz → Calls Tryd.prog 10 #[.int .i64 3, .int .i64 3, .slice (some ⟨b, 0, none⟩) 1 1, .slice (some ⟨b + 1, 0, none⟩) 1 1, .slice (some ⟨wz.heap.size, 0, none⟩) 3 3] (wz.alloc (.cells #[.string ⟨N.toArray⟩, .string ⟨Q1.toArray⟩, .string ⟨Q1.toArray⟩] 9)) (fun e w' => e = .returned (.bool true) ∧ Below wz.heap.size wz w') from fun b wz h => fails_lit 3 3 [1] [[98]] [N, Q1, Q1] _ _ _ wz _ h.g (by0 wz _) (nums_next h.n (by0 wz _)) (h.s.below (Nat.le_refl _) (by0 wz _)) (strs_new wz [N, Q1, Q1] _ rfl) (by decide) (by simp) e98 (by simp; omega) (root_long [98] N Q1 hlN hlQ1))
  have HF3 := Lib.hid (show ∀ b wz, Wk4 w b wz → Calls Tryd.prog 10 #[.int .i64 2, .int .i64 3, .slice (some ⟨wz.heap.size, 0, none⟩) 2 2, .slice (some ⟨wz.heap.size + 1, 0, none⟩) 2 2, .slice (some ⟨wz.heap.size + 1 + 1, 0, none⟩) 2 2] (((wz.alloc (.cells #[.int .u64 1, .int .u64 1] 33)).alloc (.cells #[.string ⟨#[98]⟩, .string ⟨#[98]⟩] 9)).alloc (.cells #[.string ⟨N.toArray⟩, .string ⟨Q1.toArray⟩] 9)) (fun e w' => e = .returned (.bool true) ∧ Below wz.heap.size wz w') from fun b wz h => fails_lit 2 3 [1, 1] [[98], [98]] [N, Q1] _ _ _ wz _ h.g (below_alloc (below_alloc (by0 wz _) _) _) (nums_lit (lit_old _ (lit_old _ (heap_alloc_new wz _))) rfl)
    (by have := (strs_new (wz.alloc (.cells #[.int .u64 1, .int .u64 1] 33)) [[98], [98]] _ rfl).below (Nat.le_refl _) (by0 _ (.cells #[.string ⟨N.toArray⟩, .string ⟨Q1.toArray⟩] 9)); rwa [World.size_alloc] at this)
    (by have := strs_new ((wz.alloc (.cells #[.int .u64 1, .int .u64 1] 33)).alloc (.cells #[.string ⟨#[98]⟩, .string ⟨#[98]⟩] 9)) [N, Q1] _ rfl; rwa [World.size_alloc, World.size_alloc] at this) (by decide) (by simp) (by simp) (by simp; omega) (bad_11 [98] N Q1))
  have HF4 := Lib.hid (show ∀ b wz, Wk4 w b wz → Calls Tryd.prog 10 #[.int .i64 2, .int .i64 3, .slice (some ⟨wz.heap.size, 0, none⟩) 1 1, .slice (some ⟨b + 1, 0, none⟩) 1 1, .slice (some ⟨wz.heap.size + 1, 0, none⟩) 2 2] ((wz.alloc (.cells #[.int .u64 3] 33)).alloc (.cells #[.string ⟨N.toArray⟩, .string ⟨Q1.toArray⟩] 9)) (fun e w' => e = .returned (.bool true) ∧ Below wz.heap.size wz w') from fun b wz h => fails_lit 2 3 [3] [[98]] [N, Q1] _ _ _ wz _ h.g (below_alloc (by0 wz _) _) (nums_lit (lit_old _ (heap_alloc_new wz _)) rfl) (h.s.below (Nat.le_refl _) (below_alloc (by0 wz _) _))
    (by have := strs_new (wz.alloc (.cells #[.int .u64 3] 33)) [N, Q1] _ rfl; rwa [World.size_alloc] at this) (by decide) (by simp) e98 (by simp; omega) (bad_3 [98] N Q1))
  have HF5 := Lib.hid (show ∀ b wz, Wk4 w b wz → Calls Tryd.prog 10 #[.int .i64 2, .int .i64 3, .slice (some ⟨b, 0, none⟩) 1 1, .slice none 0 0, .slice (some ⟨wz.heap.size, 0, none⟩) 2 2] (wz.alloc (.cells #[.string ⟨N.toArray⟩, .string ⟨Q1.toArray⟩] 9)) (fun e w' => e = .returned (.bool true) ∧ Below wz.heap.size wz w') from fun b wz h => fails_lit 2 3 [1] [] [N, Q1] _ none _ wz _ h.g (by0 wz _) (nums_next h.n (by0 wz _)) (.inl rfl) (strs_new wz [N, Q1] _ rfl) (by decide) (by simp) nil32 (by simp; omega) (root_no N Q1))
  have HF6 := Lib.hid (show ∀ b wz, Wk4 w b wz → Calls Tryd.prog 10 #[.int .i64 5, .int .i64 3, .slice (some ⟨b, 0, none⟩) 1 1, .slice (some ⟨b + 1, 0, none⟩) 1 1, .slice (some ⟨wz.heap.size, 0, none⟩) 2 2] (wz.alloc (.cells #[.string ⟨(N.drop 1).toArray⟩, .string ⟨Q1.toArray⟩] 9)) (fun e w' => e = .returned (.bool true) ∧ Below wz.heap.size wz w') from fun b wz h => fails_lit 5 3 [1] [[98]] [N.drop 1, Q1] _ _ _ wz _ h.g (by0 wz _) (nums_next h.n (by0 wz _)) (h.s.below (Nat.le_refl _) (by0 wz _)) (strs_new wz [N.drop 1, Q1] _ rfl) (by decide) (by simp) e98 (by simp; omega) (root_31 [98] (N.drop 1) Q1 (by rw [List.length_drop, hlN])))
  have hz3 : ((Q3.length : Int) != 32) = false := by rw [hlQ3]; rfl
  have hn1 : (1 : Int) ≤ (N.length : Int) := by omega
  have hx : (⟨N.toArray⟩ : ByteArray).extract 1 32 = ⟨(N.drop 1).toArray⟩ := by rw [extract_list, List.take_of_length_le (by omega)]
  rw [← hx] at HF6
  clear hx hg hA hB hC hN r0 r1 r3 h1 h3 hlA hlB hlC hlQ1 hlQ2 hlQ3
  go_enter Tryd.func8, Tryd.ntmps8
  go_upto_region 5 with (first
    | (go_at_call 9; with_reducible refine (HHA.out _ K.out).mono ?_; rintro e wn ⟨rfl, bn⟩; have K := Lib.hid (K.out.next bn))
    | (go_at_call 9; with_reducible refine (HHB.out _ K.out).mono ?_; rintro e wn ⟨rfl, bn⟩; have K := Lib.hid (K.out.next bn))
    | (go_at_call 9; with_reducible refine (HHC.out _ K.out).mono ?_; rintro e wn ⟨rfl, bn⟩; have K := Lib.hid (K.out.next bn))
    | (go_at_call 9; with_reducible refine (HHN.out _ K.out).mono ?_; rintro e wn ⟨rfl, bn⟩; have K := Lib.hid (K.out.next bn))
    | (go_at_call 9; with_reducible refine (HQ1.out _ K.out).mono ?_; rintro e wn ⟨rfl, bn⟩; have K := Lib.hid (K.out.next bn))
    | (go_at_call 9; with_reducible refine (HQ2.out _ K.out).mono ?_; rintro e wn ⟨rfl, bn⟩; have K := Lib.hid (K.out.next bn))
    | (go_at_call 9; with_reducible refine (HQ3.out _ K.out).mono ?_; rintro e wn ⟨rfl, bn⟩; have K := Lib.hid (K.out.next bn)))
  have K4 := Lib.hid (show Wk4 w wn.heap.size ((wn.alloc (.cells #[.int .u64 1] 33)).alloc (.cells #[.string ⟨#[98]⟩] 9)) from
    ⟨K.out.g.below K.out.g.size (below_alloc (by0 wn _) _), below_next K.out.o (below_alloc (by0 wn _) _), nums_lit (lit_old _ (heap_alloc_new wn _)) rfl, by have := strs_new (wn.alloc (.cells #[.int .u64 1] 33)) [[98]] _ rfl; rwa [World.size_alloc] at this⟩)
  generalize ((wn.alloc (.cells #[.int .u64 1] 33)).alloc (.cells #[.string ⟨#[98]⟩] 9)) = w4 at *
  generalize wn.heap.size = b at *
  clear HHA HHB HHC HHN HQ1 HQ2 HQ3 K
  go_upto_region 7 with (first
    | (go_at_call 11; with_reducible refine (HI1.out _ _ K4.out).mono ?_; rintro e wn ⟨rfl, bn⟩; have K4 := Lib.hid (K4.out.next bn))
    | (go_at_call 11; with_reducible refine (HI2.out _ _ K4.out).mono ?_; rintro e wn ⟨rfl, bn⟩; have K4 := Lib.hid (K4.out.next bn))
    | (go_at_call 11; with_reducible refine (HI3.out _ _ K4.out).mono ?_; rintro e wn ⟨rfl, bn⟩; have K4 := Lib.hid (K4.out.next bn)))
  go_wp2_with (first
    | (go_at_call 10; with_reducible refine (HF1.out _ _ K4.out).mono ?_; rintro e wn ⟨rfl, bn⟩; have K4 := Lib.hid (K4.out.next bn))
    | (go_at_call 10; with_reducible refine (HF2.out _ _ K4.out).mono ?_; rintro e wn ⟨rfl, bn⟩; have K4 := Lib.hid (K4.out.next bn))
    | (go_at_call 10; with_reducible refine (HF3.out _ _ K4.out).mono ?_; rintro e wn ⟨rfl, bn⟩; have K4 := Lib.hid (K4.out.next bn))
    | (go_at_call 10; with_reducible refine (HF4.out _ _ K4.out).mono ?_; rintro e wn ⟨rfl, bn⟩; have K4 := Lib.hid (K4.out.next bn))
    | (go_at_call 10; with_reducible refine (HF5.out _ _ K4.out).mono ?_; rintro e wn ⟨rfl, bn⟩; have K4 := Lib.hid (K4.out.next bn))
    | (go_at_call 10; with_reducible refine (HF6.out _ _ K4.out).mono ?_; rintro e wn ⟨rfl, bn⟩; have K4 := Lib.hid (K4.out.next bn)))
  exact bodyPost_ret (v := .bool true) (by simp [results, Tryd.results8, go_sem]) rfl ⟨rfl, K4.out.o⟩
end Go.Proofs.YtblimejnjboedaaDoor
