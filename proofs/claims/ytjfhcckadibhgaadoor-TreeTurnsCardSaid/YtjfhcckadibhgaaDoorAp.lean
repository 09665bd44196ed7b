/- The law's root and works: the chapter's examples. -/
import Derived.Test.YtjfhcckadibhgaaDoorAo
import Derived.Test.YtjfhcckadibhgaaDoorAl
namespace Go.Proofs.YtjfhcckadibhgaaDoor
open Go.RowKit

theorem hash1_any (tag x : (List UInt8)) (wz : World) (hg : Glob wz) (ht : tag.length ≤ 16) (hx : x.length ≤ 10000000) : Calls Tryd.prog 22 #[.string ⟨tag.toArray⟩, .slice (some ⟨wz.heap.size, 0, none⟩) 1 1] (wz.alloc (.cells #[.string ⟨x.toArray⟩] 9)) fun e w' => e = .returned (.string ⟨(hashL tag [x]).toArray⟩) ∧ Below wz.heap.size wz w' := by
  refine (hash_any tag (some ⟨wz.heap.size, 0, none⟩) 1 [x] _ (hg.below hg.size (by0 wz _)) (strs_new wz [x] _ rfl) (by unfold maxLen; omega) (Nat.lt_of_lt_of_le (framed_short tag [x] ht (by simpa using hx) (by simp)) (by decide))).mono ?_
  rintro e w' ⟨h1, h2⟩
  exact ⟨h1, below_next (by0 wz _) h2⟩
theorem hash2_any (tag x y : (List UInt8)) (wz : World) (hg : Glob wz) (ht : tag.length ≤ 16) (hx : x.length ≤ 10000000) (hy : y.length ≤ 10000000) : Calls Tryd.prog 22 #[.string ⟨tag.toArray⟩, .slice (some ⟨wz.heap.size, 0, none⟩) 2 2] (wz.alloc (.cells #[.string ⟨x.toArray⟩, .string ⟨y.toArray⟩] 9)) fun e w' => e = .returned (.string ⟨(hashL tag [x, y]).toArray⟩) ∧ Below wz.heap.size wz w' := by
  refine (hash_any tag (some ⟨wz.heap.size, 0, none⟩) 2 [x, y] _ (hg.below hg.size (by0 wz _)) (strs_new wz [x, y] _ rfl) (by unfold maxLen; omega) (Nat.lt_of_lt_of_le (framed_short tag [x, y] ht (by intro z hz; simp at hz; rcases hz with rfl | rfl <;> assumption) (by simp)) (by decide))).mono ?_
  rintro e w' ⟨h1, h2⟩
  exact ⟨h1, below_next (by0 wz _) h2⟩
/-- the law's root -/
theorem lroot_any (ao : Option Addr) (cap : Nat) (L : List (List UInt8)) (w : World) (hg : Glob w) (hs : Strs ao L w) (hL : L.length ≤ 65536) (hl : ∀ i (h : i < L.length), L[i].length ≤ 10000000) :
    Calls Tryd.prog 32 #[.slice ao L.length cap] w fun e w' => e = .returned (.string ⟨(rootD L).toArray⟩) ∧ Below w.heap.size w w' := by
  have HB := Lib.hid (build_any ao cap L w hg hs hL hl)
  have HR := Lib.hid (fun t w h => rootT_any L t w h)
  clear hg hs hL hl
  generalize rootD L = R at *
  go_enter Tryd.func32, Tryd.ntmps32
  go_wp2_with (first | (go_at_call 9; refine HB.out.mono ?_; rintro e w1 ⟨t, rfl, hT, _, hb1⟩) | (go_at_call 11; refine (HR.out _ _ hT).mono ?_; rintro e w2 ⟨rfl, rfl⟩))
  go_ret
  exact ⟨rfl, hb1⟩
/-- what the law's walks keep -/
structure Wl (w0 wz : World) : Prop where
  g : Glob wz
  o : Below w0.heap.size w0 wz
theorem Wl.next {w0 wz wa : World} (h : Wl w0 wz) (hb : Below wz.heap.size wz wa) : Wl w0 wa := ⟨h.g.below h.g.size hb, below_next h.o hb⟩
theorem gl_in {L : List (List UInt8)} {d k i : Nat} (h : turnB k (d : Int) = i) (hi : i < L.length) : gl L d k = hashL leafT [L[i]] := by
  subst h
  exact dif_pos hi
theorem gl_out {L : List (List UInt8)} {d k : Nat} (h : ¬ turnB k (d : Int) < L.length) : gl L d k = hashL noneT [] := dif_neg h
theorem root_0 : rootD [] = hashL noneT [] := by
  unfold rootD
  rw [show dep ([] : List (List UInt8)).length = 0 by decide +kernel]
  exact gl_out (by decide +kernel)
theorem root_1 (a : (List UInt8)) : rootD [a] = hashL leafT [a] := by
  unfold rootD
  rw [show dep [a].length = 0 from show dep 1 = 0 by decide +kernel]
  exact gl_in (i := 0) (by decide +kernel) (by simp)
theorem root_2 (a b : (List UInt8)) : rootD [a, b] = hashL nodeT [hashL leafT [a], hashL leafT [b]] := by
  unfold rootD
  rw [show dep [a, b].length = 1 from show dep 2 = 1 by decide +kernel]
  show hashL nodeT [gl [a, b] 1 0, gl [a, b] 1 1] = _
  rw [gl_in (i := 0) (by decide +kernel) (by simp), gl_in (i := 1) (by decide +kernel) (by simp)]
  rfl
theorem root_3 (a b c : (List UInt8)) : rootD [a, b, c] = hashL nodeT [hashL nodeT [hashL leafT [a], hashL leafT [c]], hashL nodeT [hashL leafT [b], hashL noneT []]] := by
  unfold rootD
  rw [show dep [a, b, c].length = 2 from show dep 3 = 2 by decide +kernel]
  show hashL nodeT [hashL nodeT [gl [a, b, c] 2 0, gl [a, b, c] 2 1], hashL nodeT [gl [a, b, c] 2 2, gl [a, b, c] 2 3]] = _
  rw [gl_in (k := 0) (i := 0) (by decide +kernel) (by simp), gl_in (k := 1) (i := 2) (by decide +kernel) (by simp), gl_in (k := 2) (i := 1) (by decide +kernel) (by simp), gl_out (k := 3) (show ¬ turnB 3 ((2 : Nat) : Int) < 3 by decide +kernel)]
  rfl
theorem at_1 (a : (List UInt8)) : atV [a] 0 0 = .tuple #[.string ⟨(hashL leafT [a]).toArray⟩, .bool true] := by
  have h : atIn (dep [a].length) 0 0 = true := show atIn (dep 1) 0 0 = true by decide +kernel
  rw [atV, atD, h, if_pos rfl, show dg (gl [a] (dep [a].length)) (Int.toNat 0) 0 = hashL leafT [a] from gl_in (i := 0) (show turnB 0 (dep 1 : Int) = 0 by decide +kernel) (by simp)]
theorem at_1b (a : (List UInt8)) : atV [a] 0 1 = .tuple #[.string ⟨#[]⟩, .bool false] := by
  have h : atIn (dep [a].length) 0 1 = false := show atIn (dep 1) 0 1 = false by decide +kernel
  rw [atV, atD, h]
  rfl
theorem at_1c (a : (List UInt8)) : atV [a] 1 0 = .tuple #[.string ⟨#[]⟩, .bool false] := by
  have h : atIn (dep [a].length) 1 0 = false := show atIn (dep 1) 1 0 = false by decide +kernel
  rw [atV, atD, h]
  rfl
set_option maxRecDepth 100000 in
set_option maxHeartbeats 4000000 in
theorem works9_any (w : World) (hg : Glob w) : Calls Tryd.prog 18 #[] w fun e w' => e = .returned (.bool true) ∧ Below w.heap.size w w' := by
  have hlA := hashL_len leafT [[97]]
  have hlB := hashL_len leafT [[98]]
  have hlC := hashL_len leafT [[99]]
  have hlN := hashL_len noneT []
  have hn32 : (hashL noneT []).length = 32 := by rw [hashL, if_pos (by decide)]; exact shaL_length _
  obtain ⟨A, hA⟩ : ∃ A, hashL leafT [[97]] = A := ⟨_, rfl⟩
  obtain ⟨B, hB⟩ : ∃ B, hashL leafT [[98]] = B := ⟨_, rfl⟩
  obtain ⟨C, hC⟩ : ∃ C, hashL leafT [[99]] = C := ⟨_, rfl⟩
  obtain ⟨N, hN⟩ : ∃ N, hashL noneT [] = N := ⟨_, rfl⟩
  have r0 := root_0
  have r1 := root_1 [97]
  have r2 := root_2 [97] [98]
  have r3 := root_3 [97] [98] [99]
  have a1 := at_1 [97]
  rw [hA, hB, hC, hN] at r3
  rw [hA, hB] at r2
  rw [hA] at r1 a1 hlA
  rw [hB] at hlB; rw [hC] at hlC; rw [hN] at hlN hn32 r0
  have hlQ1 := hashL_len nodeT [A, C]
  have HQ1 := Lib.hid (show ∀ wz, Wl w wz → Calls Tryd.prog 22 #[.string ⟨#[110, 111, 100, 101]⟩, .slice (some ⟨wz.heap.size, 0, none⟩) 2 2] (wz.alloc (.cells #[.string ⟨A.toArray⟩, .string ⟨C.toArray⟩] 9)) (fun e w' => e = .returned (.string ⟨(hashL nodeT [A, C]).toArray⟩) ∧ Below wz.heap.size wz w') from fun wz h => hash2_any nodeT A C wz h.g (by decide) (by omega) (by omega))
  have hlQ2 := hashL_len nodeT [B, N]
  have HQ2 := Lib.hid (show ∀ wz, Wl w wz → Calls Tryd.prog 22 #[.string ⟨#[110, 111, 100, 101]⟩, .slice (some ⟨wz.heap.size, 0, none⟩) 2 2] (wz.alloc (.cells #[.string ⟨B.toArray⟩, .string ⟨N.toArray⟩] 9)) (fun e w' => e = .returned (.string ⟨(hashL nodeT [B, N]).toArray⟩) ∧ Below wz.heap.size wz w') from fun wz h => hash2_any nodeT B N wz h.g (by decide) (by omega) (by omega))
  have hlR2 := hashL_len nodeT [A, B]
  have HR2 := Lib.hid (show ∀ wz, Wl w wz → Calls Tryd.prog 22 #[.string ⟨#[110, 111, 100, 101]⟩, .slice (some ⟨wz.heap.size, 0, none⟩) 2 2] (wz.alloc (.cells #[.string ⟨A.toArray⟩, .string ⟨B.toArray⟩] 9)) (fun e w' => e = .returned (.string ⟨(hashL nodeT [A, B]).toArray⟩) ∧ Below wz.heap.size wz w') from fun wz h => hash2_any nodeT A B wz h.g (by decide) (by omega) (by omega))
  generalize hashL nodeT [A, C] = Q1 at *
  generalize hashL nodeT [B, N] = Q2 at *
  generalize hashL nodeT [A, B] = R2 at *
  have HQ3 := Lib.hid (show ∀ wz, Wl w wz → Calls Tryd.prog 22 #[.string ⟨#[110, 111, 100, 101]⟩, .slice (some ⟨wz.heap.size, 0, none⟩) 2 2] (wz.alloc (.cells #[.string ⟨Q1.toArray⟩, .string ⟨Q2.toArray⟩] 9)) (fun e w' => e = .returned (.string ⟨(hashL nodeT [Q1, Q2]).toArray⟩) ∧ Below wz.heap.size wz w') from fun wz h => hash2_any nodeT Q1 Q2 wz h.g (by decide) (by omega) (by omega))
  generalize hashL nodeT [Q1, Q2] = Q3 at *
  have HHA := Lib.hid (show ∀ wz, Wl w wz → Calls Tryd.prog 22 #[.string ⟨#[108, 101, 97, 102]⟩, .slice (some ⟨wz.heap.size, 0, none⟩) 1 1] (wz.alloc (.cells #[.string ⟨#[97]⟩] 9)) (fun e w' => e = .returned (.string ⟨(hashL leafT [[97]]).toArray⟩) ∧ Below wz.heap.size wz w') from fun wz h => hash1_any leafT [97] wz h.g (by decide) (by decide))
  rw [hA] at HHA
  have HHB := Lib.hid (show ∀ wz, Wl w wz → Calls Tryd.prog 22 #[.string ⟨#[108, 101, 97, 102]⟩, .slice (some ⟨wz.heap.size, 0, none⟩) 1 1] (wz.alloc (.cells #[.string ⟨#[98]⟩] 9)) (fun e w' => e = .returned (.string ⟨(hashL leafT [[98]]).toArray⟩) ∧ Below wz.heap.size wz w') from fun wz h => hash1_any leafT [98] wz h.g (by decide) (by decide))
  rw [hB] at HHB
  have HHC := Lib.hid (show ∀ wz, Wl w wz → Calls Tryd.prog 22 #[.string ⟨#[108, 101, 97, 102]⟩, .slice (some ⟨wz.heap.size, 0, none⟩) 1 1] (wz.alloc (.cells #[.string ⟨#[99]⟩] 9)) (fun e w' => e = .returned (.string ⟨(hashL leafT [[99]]).toArray⟩) ∧ Below wz.heap.size wz w') from fun wz h => hash1_any leafT [99] wz h.g (by decide) (by decide))
  rw [hC] at HHC
  have HHN := Lib.hid (show ∀ wz, Wl w wz → Calls Tryd.prog 22 #[.string ⟨#[110, 111, 110, 101]⟩, .slice none 0 0] wz (fun e w' => e = .returned (.string ⟨(hashL noneT []).toArray⟩) ∧ Below wz.heap.size wz w') from fun wz h => hash_any noneT none 0 [] wz h.g (.inl rfl) (by decide) (by decide))
  rw [hN] at HHN
  have HB1 := Lib.hid (show ∀ wz, Wl w wz → Calls Tryd.prog 9 #[.slice (some ⟨wz.heap.size, 0, none⟩) 1 1] (wz.alloc (.cells #[.string ⟨#[97]⟩] 9)) (fun e w' => ∃ t, e = .returned (.tuple #[.pointer (some ⟨t, 0, none⟩), .int .i64 0]) ∧ TreeM [[97]] w' t ∧ Below wz.heap.size wz w') from fun wz h => (build_any (some ⟨wz.heap.size, 0, none⟩) 1 [[97]] _ (h.g.below h.g.size (by0 wz _)) (strs_new wz [[97]] _ rfl) (by decide) (by decide)).mono fun e w' ⟨t, h1, h2, _, h3⟩ => ⟨t, h1, h2, below_next (by0 wz _) h3⟩)
  have HB2 := Lib.hid (show ∀ wz, Wl w wz → Calls Tryd.prog 9 #[.slice (some ⟨wz.heap.size, 0, none⟩) 2 2] (wz.alloc (.cells #[.string ⟨#[97]⟩, .string ⟨#[98]⟩] 9)) (fun e w' => ∃ t, e = .returned (.tuple #[.pointer (some ⟨t, 0, none⟩), .int .i64 0]) ∧ TreeM [[97], [98]] w' t ∧ Below wz.heap.size wz w') from fun wz h => (build_any (some ⟨wz.heap.size, 0, none⟩) 2 [[97], [98]] _ (h.g.below h.g.size (by0 wz _)) (strs_new wz [[97], [98]] _ rfl) (by decide) (by decide)).mono fun e w' ⟨t, h1, h2, _, h3⟩ => ⟨t, h1, h2, below_next (by0 wz _) h3⟩)
  have HR0 := Lib.hid (show ∀ wz, Wl w wz → Calls Tryd.prog 32 #[.slice none 0 0] wz (fun e w' => e = .returned (.string ⟨(rootD []).toArray⟩) ∧ Below wz.heap.size wz w') from fun wz h => lroot_any none 0 [] wz h.g (.inl rfl) (by decide) (by decide))
  rw [r0] at HR0
  have HR3 := Lib.hid (show ∀ wz, Wl w wz → Calls Tryd.prog 32 #[.slice (some ⟨wz.heap.size, 0, none⟩) 3 3] (wz.alloc (.cells #[.string ⟨#[97]⟩, .string ⟨#[98]⟩, .string ⟨#[99]⟩] 9)) (fun e w' => e = .returned (.string ⟨(rootD [[97], [98], [99]]).toArray⟩) ∧ Below wz.heap.size wz w') from fun wz h => (lroot_any (some ⟨wz.heap.size, 0, none⟩) 3 [[97], [98], [99]] _ (h.g.below h.g.size (by0 wz _)) (strs_new wz [[97], [98], [99]] _ rfl) (by decide) (by decide)).mono fun e w' ⟨h1, h3⟩ => ⟨h1, below_next (by0 wz _) h3⟩)
  rw [r3] at HR3
  have HR4 := Lib.hid (show ∀ wz, Wl w wz → Calls Tryd.prog 32 #[.slice (some ⟨wz.heap.size, 0, none⟩) 2 2] (wz.alloc (.cells #[.string ⟨#[97]⟩, .string ⟨#[99]⟩] 9)) (fun e w' => e = .returned (.string ⟨(rootD [[97], [99]]).toArray⟩) ∧ Below wz.heap.size wz w') from fun wz h => (lroot_any (some ⟨wz.heap.size, 0, none⟩) 2 [[97], [99]] _ (h.g.below h.g.size (by0 wz _)) (strs_new wz [[97], [99]] _ rfl) (by decide) (by decide)).mono fun e w' ⟨h1, h3⟩ => ⟨h1, below_next (by0 wz _) h3⟩)
  have HA1 := Lib.hid (show ∀ t wz, TreeM [[97]] wz t → Calls Tryd.prog 16 #[.pointer (some ⟨t, 0, none⟩), .int .i64 0, .int .u64 0] wz (fun e w' => e = .returned (atV [[97]] 0 0) ∧ Below wz.heap.size wz w') from fun t wz h => at_any [[97]] t 0 0 wz h (by decide))
  rw [a1] at HA1
  have HA2 := Lib.hid (show ∀ t wz, TreeM [[97]] wz t → Calls Tryd.prog 16 #[.pointer (some ⟨t, 0, none⟩), .int .i64 0, .int .u64 1] wz (fun e w' => e = .returned (atV [[97]] 0 1) ∧ Below wz.heap.size wz w') from fun t wz h => at_any [[97]] t 0 1 wz h (by decide))
  rw [at_1b] at HA2
  have HA3 := Lib.hid (show ∀ t wz, TreeM [[97]] wz t → Calls Tryd.prog 16 #[.pointer (some ⟨t, 0, none⟩), .int .i64 1, .int .u64 0] wz (fun e w' => e = .returned (atV [[97]] 1 0) ∧ Below wz.heap.size wz w') from fun t wz h => at_any [[97]] t 1 0 wz h (by decide))
  rw [at_1c] at HA3
  have HW1 := Lib.hid (show ∀ t wz, TreeM [[97], [98]] wz t → Wl w wz → Calls Tryd.prog 19 #[.pointer (some ⟨t, 0, none⟩), .int .u64 1, .string ⟨#[99]⟩] wz (fun e w' => ∃ u, e = .returned (.tuple #[.pointer (some ⟨u, 0, none⟩), .int .i64 0]) ∧ TreeM (([[97], [98]] : List (List UInt8)).set 1 [99]) w' u ∧ Below wz.heap.size wz w') from fun t wz h k => withT_any [[97], [98]] t 1 [99] wz k.g h (by decide) (by decide))
  have HW2 := Lib.hid (show ∀ t wz, TreeM [[97], [98]] wz t → Calls Tryd.prog 19 #[.pointer (some ⟨t, 0, none⟩), .int .u64 2, .string ⟨#[99]⟩] wz (fun e w' => e = .returned (.tuple #[.pointer none, .int .i64 2]) ∧ Below wz.heap.size wz w') from fun t wz h => withT_bad [[97], [98]] t 2 [99] wz h (by decide))
  rw [show ([[97], [98]] : List (List UInt8)).set 1 [99] = [[97], [99]] from rfl] at HW1
  have HT1 := Lib.hid (fun t wz (h : TreeM [[97]] wz t) => rootT_any [[97]] t wz h)
  rw [r1] at HT1
  have HT2 := Lib.hid (fun t wz (h : TreeM [[97], [98]] wz t) => rootT_any [[97], [98]] t wz h)
  rw [r2] at HT2
  have HT3 := Lib.hid (fun t wz (h : TreeM [[97], [99]] wz t) => rootT_any [[97], [99]] t wz h)
  generalize rootD [[97], [99]] = R4 at *
  have HD1 := Lib.hid (fun t wz (h : TreeM [[97]] wz t) => depthT_any [[97]] t wz h)
  rw [show dep ([[97]] : List (List UInt8)).length = 0 by decide +kernel] at HD1
  have HD2 := Lib.hid (fun t wz (h : TreeM [[97], [98]] wz t) => depthT_any [[97], [98]] t wz h)
  rw [show dep ([[97], [98]] : List (List UInt8)).length = 1 by decide +kernel] at HD2
  have HL2 := Lib.hid (fun t wz (h : TreeM [[97], [98]] wz t) => lenT_any [[97], [98]] t wz h)
  have K := Lib.hid (show Wl w w from ⟨hg, Below.refl _ _⟩)
  have hNE : (N.length : Int) = 32 := by omega
  clear r0 r1 r2 r3 a1 hlA hlB hlC hlN hn32 hlQ1 hlQ2 hlR2 hA hB hC hN hg
  go_enter Tryd.func18, Tryd.ntmps18
  go_wp2_with (first
    | (go_at_call 22; with_reducible refine (HHA.out _ K.out).mono ?_; rintro e wn ⟨rfl, bn⟩; (try have T1 := Lib.hid (T1.out.below bn)); (try have T2 := Lib.hid (T2.out.below bn)); (try have U := Lib.hid (U.out.below bn)); have K := Lib.hid (K.out.next bn))
    | (go_at_call 22; with_reducible refine (HHB.out _ K.out).mono ?_; rintro e wn ⟨rfl, bn⟩; (try have T1 := Lib.hid (T1.out.below bn)); (try have T2 := Lib.hid (T2.out.below bn)); (try have U := Lib.hid (U.out.below bn)); have K := Lib.hid (K.out.next bn))
    | (go_at_call 22; with_reducible refine (HHC.out _ K.out).mono ?_; rintro e wn ⟨rfl, bn⟩; (try have T1 := Lib.hid (T1.out.below bn)); (try have T2 := Lib.hid (T2.out.below bn)); (try have U := Lib.hid (U.out.below bn)); have K := Lib.hid (K.out.next bn))
    | (go_at_call 22; with_reducible refine (HHN.out _ K.out).mono ?_; rintro e wn ⟨rfl, bn⟩; (try have T1 := Lib.hid (T1.out.below bn)); (try have T2 := Lib.hid (T2.out.below bn)); (try have U := Lib.hid (U.out.below bn)); have K := Lib.hid (K.out.next bn))
    | (go_at_call 22; with_reducible refine (HQ1.out _ K.out).mono ?_; rintro e wn ⟨rfl, bn⟩; (try have T1 := Lib.hid (T1.out.below bn)); (try have T2 := Lib.hid (T2.out.below bn)); (try have U := Lib.hid (U.out.below bn)); have K := Lib.hid (K.out.next bn))
    | (go_at_call 22; with_reducible refine (HQ2.out _ K.out).mono ?_; rintro e wn ⟨rfl, bn⟩; (try have T1 := Lib.hid (T1.out.below bn)); (try have T2 := Lib.hid (T2.out.below bn)); (try have U := Lib.hid (U.out.below bn)); have K := Lib.hid (K.out.next bn))
    | (go_at_call 22; with_reducible refine (HQ3.out _ K.out).mono ?_; rintro e wn ⟨rfl, bn⟩; (try have T1 := Lib.hid (T1.out.below bn)); (try have T2 := Lib.hid (T2.out.below bn)); (try have U := Lib.hid (U.out.below bn)); have K := Lib.hid (K.out.next bn))
    | (go_at_call 22; with_reducible refine (HR2.out _ K.out).mono ?_; rintro e wn ⟨rfl, bn⟩; (try have T1 := Lib.hid (T1.out.below bn)); (try have T2 := Lib.hid (T2.out.below bn)); (try have U := Lib.hid (U.out.below bn)); have K := Lib.hid (K.out.next bn))
    | (go_at_call 9; with_reducible refine (HB1.out _ K.out).mono ?_; rintro e wn ⟨t1, rfl, hT1, bn⟩; (try have T1 := Lib.hid (T1.out.below bn)); (try have T2 := Lib.hid (T2.out.below bn)); (try have U := Lib.hid (U.out.below bn)); have K := Lib.hid (K.out.next bn); have T1 := Lib.hid hT1; clear hT1)
    | (go_at_call 9; with_reducible refine (HB2.out _ K.out).mono ?_; rintro e wn ⟨t2, rfl, hT2, bn⟩; (try have T1 := Lib.hid (T1.out.below bn)); (try have T2 := Lib.hid (T2.out.below bn)); (try have U := Lib.hid (U.out.below bn)); have K := Lib.hid (K.out.next bn); have T2 := Lib.hid hT2; clear hT2)
    | (go_at_call 32; with_reducible refine (HR0.out _ K.out).mono ?_; rintro e wn ⟨rfl, bn⟩; (try have T1 := Lib.hid (T1.out.below bn)); (try have T2 := Lib.hid (T2.out.below bn)); (try have U := Lib.hid (U.out.below bn)); have K := Lib.hid (K.out.next bn))
    | (go_at_call 32; with_reducible refine (HR3.out _ K.out).mono ?_; rintro e wn ⟨rfl, bn⟩; (try have T1 := Lib.hid (T1.out.below bn)); (try have T2 := Lib.hid (T2.out.below bn)); (try have U := Lib.hid (U.out.below bn)); have K := Lib.hid (K.out.next bn))
    | (go_at_call 32; with_reducible refine (HR4.out _ K.out).mono ?_; rintro e wn ⟨rfl, bn⟩; (try have T1 := Lib.hid (T1.out.below bn)); (try have T2 := Lib.hid (T2.out.below bn)); (try have U := Lib.hid (U.out.below bn)); have K := Lib.hid (K.out.next bn))
    | (go_at_call 16; with_reducible refine (HA1.out _ _ T1.out).mono ?_; rintro e wn ⟨rfl, bn⟩; (try have T1 := Lib.hid (T1.out.below bn)); (try have T2 := Lib.hid (T2.out.below bn)); (try have U := Lib.hid (U.out.below bn)); have K := Lib.hid (K.out.next bn))
    | (go_at_call 16; with_reducible refine (HA2.out _ _ T1.out).mono ?_; rintro e wn ⟨rfl, bn⟩; (try have T1 := Lib.hid (T1.out.below bn)); (try have T2 := Lib.hid (T2.out.below bn)); (try have U := Lib.hid (U.out.below bn)); have K := Lib.hid (K.out.next bn))
    | (go_at_call 16; with_reducible refine (HA3.out _ _ T1.out).mono ?_; rintro e wn ⟨rfl, bn⟩; (try have T1 := Lib.hid (T1.out.below bn)); (try have T2 := Lib.hid (T2.out.below bn)); (try have U := Lib.hid (U.out.below bn)); have K := Lib.hid (K.out.next bn))
    | (go_at_call 19; with_reducible refine (HW1.out _ _ T2.out K.out).mono ?_; rintro e wn ⟨u, rfl, hU, bn⟩; (try have T1 := Lib.hid (T1.out.below bn)); (try have T2 := Lib.hid (T2.out.below bn)); (try have U := Lib.hid (U.out.below bn)); have K := Lib.hid (K.out.next bn); have U := Lib.hid hU; clear hU)
    | (go_at_call 19; with_reducible refine (HW2.out _ _ T2.out).mono ?_; rintro e wn ⟨rfl, bn⟩; (try have T1 := Lib.hid (T1.out.below bn)); (try have T2 := Lib.hid (T2.out.below bn)); (try have U := Lib.hid (U.out.below bn)); have K := Lib.hid (K.out.next bn))
    | (go_at_call 11; with_reducible refine (HT1.out _ _ T1.out).mono ?_; rintro e wn ⟨rfl, rfl⟩; skip)
    | (go_at_call 11; with_reducible refine (HT2.out _ _ T2.out).mono ?_; rintro e wn ⟨rfl, rfl⟩; skip)
    | (go_at_call 11; with_reducible refine (HT3.out _ _ U.out).mono ?_; rintro e wn ⟨rfl, rfl⟩; skip)
    | (go_at_call 13; with_reducible refine (HD1.out _ _ T1.out).mono ?_; rintro e wn ⟨rfl, rfl⟩; skip)
    | (go_at_call 13; with_reducible refine (HD2.out _ _ T2.out).mono ?_; rintro e wn ⟨rfl, rfl⟩; skip)
    | (go_at_call 15; with_reducible refine (HL2.out _ _ T2.out).mono ?_; rintro e wn ⟨rfl, rfl⟩; skip))
  exact bodyPost_ret (v := .bool true) (by simp [results, Tryd.results18, go_sem]) rfl ⟨rfl, K.out.o⟩
end Go.Proofs.YtjfhcckadibhgaaDoor
