/- The law's TreeKnown: limits, a full tree, a tree that is none. -/
import Derived.Test.YtjfhcckadibhgaaDoorAq
import Derived.Laws.MakeOwn
namespace Go.Proofs.YtjfhcckadibhgaaDoor
open Go.RowKit

theorem made_str (n : Nat) : madeCells (Value.string ⟨#[]⟩).cells n = ((List.replicate n ([] : (List UInt8))).map fun x => Value.string ⟨x.toArray⟩).toArray := by
  apply Array.ext
  · simp [madeCells]
  · intro i h1 h2
    simp [madeCells, Value.cells, Nat.mod_one]
theorem make_strs (n : Nat) (hn : n ≤ 100000) (w : World) : (Instr.makeSlice 22 (.int .i64 (n : Int)) (.int .i64 (n : Int))).run Tryd.prog w = .ok (.slice (some ⟨w.heap.size, 0, none⟩) n n) (w.alloc (.cells ((List.replicate n ([] : (List UInt8))).map fun x => Value.string ⟨x.toArray⟩).toArray 9)) := by
  obtain ⟨i0, hi, hz0, hz1, hz2⟩ := info_parts info_str
  have h := run_make (P := Tryd.prog) w 22 9 i0 (.string ⟨#[]⟩) Tryd.underlying22 hi hz0 .i64 .i64 (n : Int) (n : Int) (by omega) (by omega) (by rw [hz2]; omega) (by omega)
  rw [h, hz1, Int.toNat_natCast, Nat.mul_one, made_str]
/-- the digests of a tree whose leaves are alike -/
def itD (x : (List UInt8)) : Nat → (List UInt8)
  | 0 => x
  | n + 1 => hashL nodeT [itD x n, itD x n]
theorem dg_const (x : (List UInt8)) : ∀ l k, dg (fun _ => x) l k = itD x l
  | 0, _ => rfl
  | l + 1, k => by rw [dg, dg_const x l, dg_const x l, itD]
theorem itD_len (x : (List UInt8)) (h : x.length ≤ 32) (l : Nat) : (itD x l).length ≤ 32 := by
  cases l with
  | zero => exact h
  | succ l => exact hashL_len _ _
theorem full_root : rootD (List.replicate 65536 ([] : (List UInt8))) = itD (hashL leafT [[]]) 16 := by
  unfold rootD
  rw [List.length_replicate, show dep 65536 = 16 by decide +kernel, ← dg_const (hashL leafT [[]]) 16 0]
  refine dg_congr 16 0 fun j _ hj => ?_
  have hj2 : j < 2 ^ 16 := by omega
  have ht := turnB_lt (d := 16) (by decide) hj2
  unfold gl
  rw [dif_pos (by rw [List.length_replicate]; exact ht)]
  congr 2
  exact List.getElem_replicate _
theorem at_five (a b c d e : (List UInt8)) : atV [a, b, c, d, e] 0 1 = .tuple #[.string ⟨(hashL leafT [e]).toArray⟩, .bool true] ∧ atV [a, b, c, d, e] 0 3 = .tuple #[.string ⟨(hashL noneT []).toArray⟩, .bool true] := by
  have h1 : atIn (dep [a, b, c, d, e].length) 0 1 = true := show atIn (dep 5) 0 1 = true by decide +kernel
  have h3 : atIn (dep [a, b, c, d, e].length) 0 3 = true := show atIn (dep 5) 0 3 = true by decide +kernel
  constructor
  · rw [atV, atD, h1, if_pos rfl, show dg (gl [a, b, c, d, e] (dep [a, b, c, d, e].length)) (Int.toNat 0) 1 = hashL leafT [e] from gl_in (i := 4) (show turnB 1 (dep 5 : Int) = 4 by decide +kernel) (by simp)]
  · rw [atV, atD, h3, if_pos rfl, show dg (gl [a, b, c, d, e] (dep [a, b, c, d, e].length)) (Int.toNat 0) 3 = hashL noneT [] from gl_out (show ¬ turnB 3 (dep 5 : Int) < 5 by decide +kernel)]
theorem at_none {L : List (List UInt8)} {level : Int} {k : Nat} (h : atIn (dep L.length) level k = false) : atV L level k = .tuple #[.string ⟨#[]⟩, .bool false] := by
  rw [atV, atD, h]
  rfl
set_option maxRecDepth 100000 in
set_option maxHeartbeats 4000000 in
theorem treeKnown_any (w : World) (hg : Glob w) : Calls Tryd.prog 7 #[] w fun e w' => e = .returned (.bool true) ∧ Below w.heap.size w w' := by
  have HM1 := Lib.hid (make_strs 65537 (by decide) w)
  have HM2 := Lib.hid (make_strs 65536 (by decide) (w.alloc (.cells ((List.replicate 65537 ([] : (List UInt8))).map fun x => Value.string ⟨x.toArray⟩).toArray 9)))
  obtain ⟨FL, hFL⟩ : ∃ FL, FL = List.replicate 65536 ([] : (List UInt8)) := ⟨_, rfl⟩
  have hFn : FL.length = 65536 := by rw [hFL, List.length_replicate]
  have HBB := Lib.hid (show ∀ b wz, Calls Tryd.prog 9 #[.slice (some ⟨b, 0, none⟩) 65537 65537] wz (fun e w' => e = .returned (.tuple #[.pointer none, .int .i64 3]) ∧ wz = w') from fun b wz => build_bad (some ⟨b, 0, none⟩) 65537 65537 wz (by decide))
  have HBF := Lib.hid (show ∀ wz, Wl w wz → Calls Tryd.prog 9 #[.slice (some ⟨wz.heap.size, 0, none⟩) 65536 65536] (wz.alloc (.cells (FL.map fun x => Value.string ⟨x.toArray⟩).toArray 9)) (fun e w' => ∃ t, e = .returned (.tuple #[.pointer (some ⟨t, 0, none⟩), .int .i64 0]) ∧ TreeM FL w' t ∧ Below wz.heap.size wz w') from fun wz h => by
    have h2 := build_any (some ⟨wz.heap.size, 0, none⟩) 65536 FL _ (h.g.below h.g.size (by0 wz _)) (strs_new wz FL _ rfl) (by omega) (fun i hi => by
      have : FL[i] = [] := by subst hFL; exact List.getElem_replicate _
      rw [this]; decide)
    rw [hFn] at h2
    exact h2.mono fun e w' ⟨t, h1, h2, _, h3⟩ => ⟨t, h1, h2, below_next (by0 wz _) h3⟩)
  have HB5 := Lib.hid (show ∀ wz, Wl w wz → Calls Tryd.prog 9 #[.slice (some ⟨wz.heap.size, 0, none⟩) 5 5] (wz.alloc (.cells #[.string ⟨#[97]⟩, .string ⟨#[98]⟩, .string ⟨#[99]⟩, .string ⟨#[100]⟩, .string ⟨#[101]⟩] 9)) (fun e w' => ∃ t, e = .returned (.tuple #[.pointer (some ⟨t, 0, none⟩), .int .i64 0]) ∧ TreeM [[97], [98], [99], [100], [101]] w' t ∧ Below wz.heap.size wz w') from fun wz h => (build_any (some ⟨wz.heap.size, 0, none⟩) 5 [[97], [98], [99], [100], [101]] _ (h.g.below h.g.size (by0 wz _)) (strs_new wz [[97], [98], [99], [100], [101]] _ rfl) (by decide) (by decide)).mono fun e w' ⟨t, h1, h2, _, h3⟩ => ⟨t, h1, h2, below_next (by0 wz _) h3⟩)
  have HHe := Lib.hid (show ∀ wz, Wl w wz → Calls Tryd.prog 22 #[.string ⟨#[108, 101, 97, 102]⟩, .slice (some ⟨wz.heap.size, 0, none⟩) 1 1] (wz.alloc (.cells #[.string ⟨#[]⟩] 9)) (fun e w' => e = .returned (.string ⟨(hashL leafT [[]]).toArray⟩) ∧ Below wz.heap.size wz w') from fun wz h => hash1_any leafT [] wz h.g (by decide) (by decide))
  have HH5 := Lib.hid (show ∀ wz, Wl w wz → Calls Tryd.prog 22 #[.string ⟨#[108, 101, 97, 102]⟩, .slice (some ⟨wz.heap.size, 0, none⟩) 1 1] (wz.alloc (.cells #[.string ⟨#[101]⟩] 9)) (fun e w' => e = .returned (.string ⟨(hashL leafT [[101]]).toArray⟩) ∧ Below wz.heap.size wz w') from fun wz h => hash1_any leafT [101] wz h.g (by decide) (by decide))
  have HHN := Lib.hid (show ∀ wz, Wl w wz → Calls Tryd.prog 22 #[.string ⟨#[110, 111, 110, 101]⟩, .slice none 0 0] wz (fun e w' => e = .returned (.string ⟨(hashL noneT []).toArray⟩) ∧ Below wz.heap.size wz w') from fun wz h => hash_any noneT none 0 [] wz h.g (.inl rfl) (by decide) (by decide))
  have HI := Lib.hid (itD_len (hashL leafT [[]]) (hashL_len _ _))
  have HH2 := Lib.hid (show ∀ (n : Nat) wz, Wl w wz → Calls Tryd.prog 22 #[.string ⟨#[110, 111, 100, 101]⟩, .slice (some ⟨wz.heap.size, 0, none⟩) 2 2] (wz.alloc (.cells #[.string ⟨(itD (hashL leafT [[]]) n).toArray⟩, .string ⟨(itD (hashL leafT [[]]) n).toArray⟩] 9)) (fun e w' => e = .returned (.string ⟨(itD (hashL leafT [[]]) (n + 1)).toArray⟩) ∧ Below wz.heap.size wz w') from fun n wz h => hash2_any nodeT _ _ wz h.g (by decide) (by have := HI.out n; omega) (by have := HI.out n; omega))
  have HW := Lib.hid (fun wz (h : Wl w wz) => works9_any wz h.g)
  have HRF := Lib.hid (fun t wz (h : TreeM FL wz t) => rootT_any FL t wz h)
  rw [show rootD FL = itD (hashL leafT [[]]) 16 by rw [hFL]; exact full_root] at HRF
  have HDF := Lib.hid (fun t wz (h : TreeM FL wz t) => depthT_any FL t wz h)
  rw [hFn, show dep 65536 = 16 by decide +kernel] at HDF
  have HLF := Lib.hid (fun t wz (h : TreeM FL wz t) => lenT_any FL t wz h)
  rw [hFn] at HLF
  have HD5 := Lib.hid (fun t wz (h : TreeM [[97], [98], [99], [100], [101]] wz t) => depthT_any [[97], [98], [99], [100], [101]] t wz h)
  rw [show dep ([[97], [98], [99], [100], [101]] : List (List UInt8)).length = 3 from show dep 5 = 3 by decide +kernel] at HD5
  have HA1 := Lib.hid (show ∀ t wz, TreeM [[97], [98], [99], [100], [101]] wz t → Calls Tryd.prog 16 #[.pointer (some ⟨t, 0, none⟩), .int .i64 (-1), .int .u64 0] wz (fun e w' => e = .returned (.tuple #[.string ⟨#[]⟩, .bool false]) ∧ Below wz.heap.size wz w') from fun t wz h => by
    have h2 := at_any [[97], [98], [99], [100], [101]] t (-1) 0 wz h (by decide)
    rw [at_none (L := [[97], [98], [99], [100], [101]]) (level := -1) (k := 0) (show atIn (dep 5) (-1) 0 = false by decide +kernel)] at h2
    exact h2)
  have HA2 := Lib.hid (show ∀ t wz, TreeM [[97], [98], [99], [100], [101]] wz t → Calls Tryd.prog 16 #[.pointer (some ⟨t, 0, none⟩), .int .i64 4, .int .u64 0] wz (fun e w' => e = .returned (.tuple #[.string ⟨#[]⟩, .bool false]) ∧ Below wz.heap.size wz w') from fun t wz h => by
    have h2 := at_any [[97], [98], [99], [100], [101]] t 4 0 wz h (by decide)
    rw [at_none (L := [[97], [98], [99], [100], [101]]) (level := 4) (k := 0) (show atIn (dep 5) 4 0 = false by decide +kernel)] at h2
    exact h2)
  have HA3 := Lib.hid (show ∀ t wz, TreeM [[97], [98], [99], [100], [101]] wz t → Calls Tryd.prog 16 #[.pointer (some ⟨t, 0, none⟩), .int .i64 0, .int .u64 9223372036854775808] wz (fun e w' => e = .returned (.tuple #[.string ⟨#[]⟩, .bool false]) ∧ Below wz.heap.size wz w') from fun t wz h => by
    have h2 := at_any [[97], [98], [99], [100], [101]] t 0 9223372036854775808 wz h (by decide)
    rw [at_none (L := [[97], [98], [99], [100], [101]]) (level := 0) (k := 9223372036854775808) (show atIn (dep 5) 0 9223372036854775808 = false by decide +kernel)] at h2
    exact h2)
  have HA4 := Lib.hid (show ∀ t wz, TreeM [[97], [98], [99], [100], [101]] wz t → Calls Tryd.prog 16 #[.pointer (some ⟨t, 0, none⟩), .int .i64 0, .int .u64 1] wz (fun e w' => e = .returned (.tuple #[.string ⟨(hashL leafT [[101]]).toArray⟩, .bool true]) ∧ Below wz.heap.size wz w') from fun t wz h => by
    have h2 := at_any [[97], [98], [99], [100], [101]] t 0 1 wz h (by decide)
    rw [(at_five [97] [98] [99] [100] [101]).1] at h2
    exact h2)
  have HA5 := Lib.hid (show ∀ t wz, TreeM [[97], [98], [99], [100], [101]] wz t → Calls Tryd.prog 16 #[.pointer (some ⟨t, 0, none⟩), .int .i64 0, .int .u64 3] wz (fun e w' => e = .returned (.tuple #[.string ⟨(hashL noneT []).toArray⟩, .bool true]) ∧ Below wz.heap.size wz w') from fun t wz h => by
    have h2 := at_any [[97], [98], [99], [100], [101]] t 0 3 wz h (by decide)
    rw [(at_five [97] [98] [99] [100] [101]).2] at h2
    exact h2)
  have HA6 := Lib.hid (show ∀ t wz, TreeM FL wz t → Calls Tryd.prog 16 #[.pointer (some ⟨t, 0, none⟩), .int .i64 16, .int .u64 1] wz (fun e w' => e = .returned (.tuple #[.string ⟨#[]⟩, .bool false]) ∧ Below wz.heap.size wz w') from fun t wz h => by
    have h2 := at_any FL t 16 1 wz h (by decide)
    rw [at_none (show atIn (dep FL.length) 16 1 = false by rw [hFn]; decide +kernel)] at h2
    exact h2)
  have HA7 := Lib.hid (show ∀ wz, Calls Tryd.prog 16 #[.pointer none, .int .i64 0, .int .u64 0] wz (fun e w' => e = .returned (.tuple #[.string ⟨#[]⟩, .bool false]) ∧ wz = w') from fun wz => at_bad (.pointer none) (-1) 0 0 wz (depth_none wz) (.inr (by decide)))
  have HWN := Lib.hid (show ∀ wz, Calls Tryd.prog 19 #[.pointer none, .int .u64 0, .string ⟨#[]⟩] wz (fun e w' => e = .returned (.tuple #[.pointer none, .int .i64 1]) ∧ Below wz.heap.size wz w') from fun wz => withT_none 0 [] wz)
  have HRN := Lib.hid root_none
  have HDN := Lib.hid depth_none
  have HLN := Lib.hid len_none
  have K := Lib.hid (show Wl w w from ⟨hg, Below.refl _ _⟩)
  generalize hashL leafT [[101]] = Z5 at *
  generalize hashL noneT [] = ZN at *
  have HX0 := Lib.hid (show itD (hashL leafT [[]]) 0 = hashL leafT [[]] from rfl)
  generalize itD (hashL leafT [[]]) = IT at *
  rw [← HX0.out] at HHe
  generalize hashL leafT [[]] = Z0 at *
  rw [← hFL] at HM2
  generalize ((List.replicate 65537 ([] : (List UInt8))).map fun x => Value.string ⟨x.toArray⟩).toArray = CS1 at *
  clear hg hFL hFn
  generalize (FL.map fun x => Value.string ⟨x.toArray⟩).toArray = CS2 at *
  have hm1 : (Instr.makeSlice 22 (.int .i64 65537) (.int .i64 65537)).run Tryd.prog w = .ok (.slice (some ⟨w.heap.size, 0, none⟩) 65537 65537) (w.alloc (.cells CS1 9)) := HM1.out
  have hm2 : (Instr.makeSlice 22 (.int .i64 65536) (.int .i64 65536)).run Tryd.prog (w.alloc (.cells CS1 9)) = .ok (.slice (some ⟨(w.alloc (.cells CS1 9)).heap.size, 0, none⟩) 65536 65536) ((w.alloc (.cells CS1 9)).alloc (.cells CS2 9)) := HM2.out
  have K1 := Lib.hid (K.out.next (by0 w (.cells CS1 9)))
  clear HM1 HM2
  go_enter Tryd.func7, Tryd.ntmps7
  go_upto_region 3 with (go_at_call 9; with_reducible refine (HBB.out _ _).mono ?_; rintro e wn ⟨rfl, rfl⟩)
  generalize hw1 : w.alloc (.cells CS1 9) = w1 at *
  clear hm1 HBB K hw1
  have K := K1
  clear K1
  have HBF1 := Lib.hid (HBF.out _ K.out)
  clear HBF
  go_upto_region 4 with (go_at_call 9; refine HBF1.out.mono ?_; rintro e w2 ⟨tf, rfl, hTF, bn⟩; have K := Lib.hid (K.out.next bn); have TF := Lib.hid hTF; clear hTF bn)
  clear hm2 HBF1
  go_upto_region 7 with (go_at_call 22; with_reducible refine (HHe.out _ K.out).mono ?_; rintro e wn ⟨rfl, bn⟩; have TF := Lib.hid (TF.out.below bn); have K := Lib.hid (K.out.next bn); clear bn)
  clear HHe
  go_wp2
  go_loopw [6, 7] (fun s6 s7 wr => ∃ n : Nat, n ≤ 16 ∧ s6 = .string ⟨(IT n).toArray⟩ ∧ s7 = .int .i64 (n : Int) ∧ Hid (Wl w wr ∧ TreeM FL wr tf)) (fun _ s7 _ => 16 - (intOf s7).toNat)
  case atStart => exact ⟨0, by omega, rfl, rfl, Lib.hid ⟨K.out, TF.out⟩⟩
  case round =>
    clear K TF
    obtain ⟨n, hn, rfl, rfl, KT⟩ := hrel
    have K := Lib.hid KT.out.1
    have TF := Lib.hid KT.out.2
    clear KT
    by_cases hlt : n < 16
    · have k1 : (n : Int) < 16 := by omega
      go_wp2_with (go_at_call 22; with_reducible refine (HH2.out n _ K.out).mono ?_; rintro e wn ⟨rfl, bn⟩; have TF := Lib.hid (TF.out.below bn); have K := Lib.hid (K.out.next bn); clear bn)
      go_roundw
      case rel => exact ⟨n + 1, hlt, rfl, by go_num, Lib.hid ⟨K.out, TF.out⟩⟩
      case measure => simp [intOf]; omega
    · have k1 : ¬ (n : Int) < 16 := by omega
      obtain rfl : n = 16 := by omega
      clear HH2 hlt hn k1
      generalize IT 16 = R16 at *
      go_wp2_with (first
        | (go_at_call 9; with_reducible refine (HB5.out _ K.out).mono ?_; rintro e wn ⟨t5, rfl, hT5, bn⟩; have TF := Lib.hid (TF.out.below bn); have K := Lib.hid (K.out.next bn); have T5 := Lib.hid hT5; clear hT5 bn)
        | (go_at_call 16; with_reducible refine (HA1.out _ _ T5.out).mono ?_; rintro e wn ⟨rfl, bn⟩; (try have TF := Lib.hid (TF.out.below bn)); (try have T5 := Lib.hid (T5.out.below bn)); have K := Lib.hid (K.out.next bn); clear bn)
        | (go_at_call 16; with_reducible refine (HA2.out _ _ T5.out).mono ?_; rintro e wn ⟨rfl, bn⟩; (try have TF := Lib.hid (TF.out.below bn)); (try have T5 := Lib.hid (T5.out.below bn)); have K := Lib.hid (K.out.next bn); clear bn)
        | (go_at_call 16; with_reducible refine (HA3.out _ _ T5.out).mono ?_; rintro e wn ⟨rfl, bn⟩; (try have TF := Lib.hid (TF.out.below bn)); (try have T5 := Lib.hid (T5.out.below bn)); have K := Lib.hid (K.out.next bn); clear bn)
        | (go_at_call 16; with_reducible refine (HA4.out _ _ T5.out).mono ?_; rintro e wn ⟨rfl, bn⟩; (try have TF := Lib.hid (TF.out.below bn)); (try have T5 := Lib.hid (T5.out.below bn)); have K := Lib.hid (K.out.next bn); clear bn)
        | (go_at_call 16; with_reducible refine (HA5.out _ _ T5.out).mono ?_; rintro e wn ⟨rfl, bn⟩; (try have TF := Lib.hid (TF.out.below bn)); (try have T5 := Lib.hid (T5.out.below bn)); have K := Lib.hid (K.out.next bn); clear bn)
        | (go_at_call 16; with_reducible refine (HA6.out _ _ TF.out).mono ?_; rintro e wn ⟨rfl, bn⟩; (try have TF := Lib.hid (TF.out.below bn)); (try have T5 := Lib.hid (T5.out.below bn)); have K := Lib.hid (K.out.next bn); clear bn)
        | (go_at_call 16; with_reducible refine (HA7.out _).mono ?_; rintro e wn ⟨rfl, rfl⟩; skip)
        | (go_at_call 19; with_reducible refine (HWN.out _).mono ?_; rintro e wn ⟨rfl, bn⟩; (try have TF := Lib.hid (TF.out.below bn)); (try have T5 := Lib.hid (T5.out.below bn)); have K := Lib.hid (K.out.next bn); clear bn)
        | (go_at_call 18; with_reducible refine (HW.out _ K.out).mono ?_; rintro e wn ⟨rfl, bn⟩; (try have TF := Lib.hid (TF.out.below bn)); (try have T5 := Lib.hid (T5.out.below bn)); have K := Lib.hid (K.out.next bn); clear bn)
        | (go_at_call 13; with_reducible refine (HDF.out _ _ TF.out).mono ?_; rintro e wn ⟨rfl, rfl⟩; skip)
        | (go_at_call 13; with_reducible refine (HD5.out _ _ T5.out).mono ?_; rintro e wn ⟨rfl, rfl⟩; skip)
        | (go_at_call 13; with_reducible refine (HDN.out _).mono ?_; rintro e wn ⟨rfl, rfl⟩; skip)
        | (go_at_call 15; with_reducible refine (HLF.out _ _ TF.out).mono ?_; rintro e wn ⟨rfl, rfl⟩; skip)
        | (go_at_call 15; with_reducible refine (HLN.out _).mono ?_; rintro e wn ⟨rfl, rfl⟩; skip)
        | (go_at_call 11; with_reducible refine (HRF.out _ _ TF.out).mono ?_; rintro e wn ⟨rfl, rfl⟩; skip)
        | (go_at_call 11; with_reducible refine (HRN.out _).mono ?_; rintro e wn ⟨rfl, rfl⟩; skip)
        | (go_at_call 22; with_reducible refine (HH5.out _ K.out).mono ?_; rintro e wn ⟨rfl, bn⟩; (try have TF := Lib.hid (TF.out.below bn)); (try have T5 := Lib.hid (T5.out.below bn)); have K := Lib.hid (K.out.next bn); clear bn)
        | (go_at_call 22; with_reducible refine (HHN.out _ K.out).mono ?_; rintro e wn ⟨rfl, bn⟩; (try have TF := Lib.hid (TF.out.below bn)); (try have T5 := Lib.hid (T5.out.below bn)); have K := Lib.hid (K.out.next bn); clear bn))
      go_ret
      exact ⟨rfl, K.out.o⟩
end Go.Proofs.YtjfhcckadibhgaaDoor
