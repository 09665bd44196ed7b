/- The law's small functions: few, rising, alike, has, errno. -/
import Derived.Test.YtfghggfoncfhgaaGreatDoorJ19
import Derived.Test.YtfghggfoncfhgaaGreatDoorJ11
import Derived.Test.YtfghggfoncfhgaaGreatDoorJ20
import Derived.Laws.AppendOwnNone
import Derived.Deep.AppendLies
import Derived.Test.YtfghggfoncfhgaaGreatDoorJ21
namespace Go.Proofs.YtfghggfoncfhgaaGreatDoor
open Go.RowKit Go.Sort

theorem few10_none (ao : Option Addr) (cap : Nat) (w : World) :
    Calls Tryz.prog 5 #[.slice ao 0 cap] w fun e w' => e = .returned (.slice none 0 0) ∧ w = w' := by
  go_enter Tryz.func5, Tryz.ntmps5
  go_wp2
  refine wp_loop_rounds 1 ?_
  rw [rounds_succ]
  go_wp2
  go_ret
  exact ⟨rfl, rfl⟩
set_option maxRecDepth 100000 in
set_option maxHeartbeats 1000000 in
theorem few10_some (b off cap : Nat) (L : List (List UInt8)) (w : World) (hL : L.length ≤ maxLen) (hl : ∀ i (h : i < L.length), L[i].length ≤ maxLen) (hb : b < w.heap.size)
    (hc : ∀ i (h : i < L.length), w.cell? ⟨b, off + i, none⟩ = some (.string ⟨L[i].toArray⟩)) :
    Calls Tryz.prog 5 #[.slice (some ⟨b, off, none⟩) L.length cap] w fun e w' => ∃ v, e = .returned v ∧ w'.ownsRow w.heap.size 9 1 v (cutBy L 40 40).length (strC (cutBy L 40 40)) ∧ Below w.heap.size w w' := by
  obtain ⟨i0, hi, hz0, hz1, hz2⟩ := info_parts info_str
  unfold maxLen at hL
  have HC := Lib.hid hc
  have HL := Lib.hid hl
  clear hc hl
  go_enter Tryz.func5, Tryz.ntmps5
  go_wp2
  go_loopw [3, 4] (fun v i wr => ∃ k : Nat, k ≤ L.length ∧ k ≤ 40 ∧ i = .int .i64 (k : Int) ∧ wr.ownsRow w.heap.size 9 1 v k (strC (cutBy L k 40)) ∧ Below w.heap.size w wr)
    (fun _ i _ => L.length - (intOf i).toNat)
  case atStart => exact ⟨0, by omega, by omega, rfl, World.ownsRow_nil _ _ _ _, Below.refl _ _⟩
  case round =>
    obtain ⟨k, hk, hk20, rfl, hown, hbe⟩ := hrel
    have hz := hbe.size
    by_cases hlt : k < L.length ∧ k < 40
    · obtain ⟨hlt1, hlt2⟩ := hlt
      have hlk := HL.out k hlt1
      unfold maxLen at hlk
      have hcell := (hbe.cell (p := ⟨b, off + k, none⟩) hb).trans (HC.out k hlt1)
      obtain ⟨X, hX⟩ : ∃ X, L[k] = X := ⟨_, rfl⟩
      have HO := Lib.hid (cutBy_snoc L k 40 X hlt1 hX)
      rw [hX] at hlk hcell
      have HX := Lib.hid hX
      clear hX
      have k0 : (0 : Int) ≤ (k : Int) := by omega
      have k1 : (k : Int) < (L.length : Int) := by omega
      have k2 : (k : Int) < 40 := by omega
      obtain ⟨m, hm1, hm2, hm3⟩ := extract_take X 40
      rw [show ((40 : Nat) : Int) = 40 from rfl] at hm1
      have m0 : (0 : Int) ≤ (m : Int) := by omega
      have m1 : (m : Int) ≤ (X.length : Int) := by omega
      have Hm3 := Lib.hid hm3
      clear hm3
      go_wp2
      have q1 : k + 1 ≤ maxLen := by unfold maxLen; omega
      have q2 : (k + 1) * 16 ≤ 140737488355328 := by omega
      have q3 : w.heap.size ≤ ((wr.alloc (Obj.cells #[Value.string ((⟨X.toArray⟩ : ByteArray).extract 0 m)] 9)).drew).heap.size := by simp; omega
      have q4 : ((wr.alloc (Obj.cells #[Value.string ((⟨X.toArray⟩ : ByteArray).extract 0 m)] 9)).drew).heap.size = wr.heap.size + 1 := by simp
      have Q1 := Lib.hid q1
      have Q2 := Lib.hid q2
      have Q3 := Lib.hid q3
      have Q4 := Lib.hid q4
      clear q1 q2 q3 q4
      go_region_law (refine step_append_lies _ (by rfl) (.tmp 15) (.tmp 27) 22 (by rfl) w.heap.size 9 i0 _ 1 16 Tryz.underlying22 hi hz0 hz1 hz2 rfl (by omega) u3 k _ (by rfl) ((hown.alloc _).drew) ⟨wr.heap.size, 0, none⟩ 1 1 [.string ((⟨X.toArray⟩ : ByteArray).extract 0 m)] (by rfl) (by rfl) (news_new wr _ _) (by simp [Value.oneCell']) (by omega) Q1.out Q2.out Q3.out (wr.heap.size + 1) Q4.out ?_; intro gg cp w1 hown1 hgrow hat hgl)
      all_goals
        rw [Hm3.out, HO.out] at hown1
        have hbe1 : Below w.heap.size w w1 := ((hbe.alloc hz _).drew).grown hgrow (by simp; omega) (fun k' e => (hown.lt k' e).1)
        clear hown hgrow hat
        go_wp2
        go_roundw
        case rel => exact ⟨k + 1, by omega, by omega, by go_num, hown1, hbe1⟩
        case measure => simp [intOf]; omega
    · have hfin : cutBy L 40 40 = cutBy L k 40 := by
        by_cases h : k < 40
        · have : k = L.length := by omega
          subst this
          rw [cutBy, cutBy, List.take_of_length_le (by omega), List.take_of_length_le (Nat.le_refl _)]
        · have : k = 40 := by omega
          rw [this]
      have hln : (cutBy L k 40).length = k := by rw [cutBy, List.length_map, List.length_take]; omega
      have HF := Lib.hid hfin
      have HN := Lib.hid hln
      clear hfin hln
      by_cases hlt1 : k < L.length
      · have hlt2 : ¬ (k : Int) < 40 := fun h => hlt ⟨hlt1, by omega⟩
        clear hlt
        go_wp2
        go_ret
        exact ⟨u3, rfl, by rw [HF.out, HN.out]; exact hown, hbe⟩
      · clear hlt
        go_wp2
        go_ret
        exact ⟨u3, rfl, by rw [HF.out, HN.out]; exact hown, hbe⟩
theorem few10_any (ao : Option Addr) (cap : Nat) (L : List (List UInt8)) (w : World) (hL : L.length ≤ maxLen) (hl : ∀ i (h : i < L.length), L[i].length ≤ maxLen) (hs : Strs ao L w) :
    Calls Tryz.prog 5 #[.slice ao L.length cap] w fun e w' => ∃ ao' cp, e = .returned (.slice ao' (cutBy L 40 40).length cp) ∧ FewP (cutBy L 40 40) w.heap.size ao' cp w' ∧ Below w.heap.size w w' := by
  by_cases hL0 : L = []
  · subst hL0
    exact (few10_none ao cap w).mono fun e w' ⟨he, hw⟩ => ⟨none, 0, by rw [he]; simp [cutBy], .inl ⟨by simp [cutBy], rfl, rfl⟩, hw ▸ Below.refl _ _⟩
  rcases hs with rfl | ⟨b, off, rfl, hb, hc⟩
  · exact absurd rfl hL0
  · refine (few10_some b off cap L w hL hl hb hc).mono fun e w' ⟨v, he, ho, hB⟩ => ?_
    have hne : cutBy L 40 40 ≠ [] := fun e => by
      have := congrArg List.length e
      rw [cutBy, List.length_map, List.length_take, List.length_nil] at this
      have := List.length_pos_iff.2 hL0
      omega
    obtain ⟨ao', cp, rfl, h⟩ := few_of_row ho hne
    exact ⟨ao', cp, he, h, hB⟩
/-- the numbers below k that are told by bits -/
def riseTo (x k : Nat) : List Nat := (List.range k).filter fun i => decide (x / 2 ^ i % 2 = 1)
theorem bit_and (x k : Nat) (hx : x < 18446744073709551616) : bits .and .u64 ((x : Int) / 2 ^ k) 1 = ((x / 2 ^ k % 2 : Nat) : Int) := by
  have h := u64_and_nat (x / 2 ^ k) 1 (Nat.lt_of_le_of_lt (Nat.div_le_self _ _) hx) (by decide)
  rw [nat_mask1] at h
  simpa using h
theorem riseTo_succ (x k : Nat) : riseTo x (k + 1) = if x / 2 ^ k % 2 = 1 then riseTo x k ++ [k] else riseTo x k := by
  unfold riseTo
  rw [List.range_succ, List.filter_append]
  by_cases h : x / 2 ^ k % 2 = 1 <;> simp [h]
theorem riseTo_lt {x k i : Nat} (h : i ∈ riseTo x k) : i < k := by
  have := (List.mem_filter.1 h).1
  simpa using this
theorem riseTo_mem {x k i : Nat} : i ∈ riseTo x k ↔ i < k ∧ x / 2 ^ i % 2 = 1 := by simp [riseTo]
theorem riseTo_pair (x k : Nat) : (riseTo x k).Pairwise (· < ·) := List.Pairwise.filter _ List.pairwise_lt_range
theorem riseTo_len (x k : Nat) : (riseTo x k).length ≤ k := by simpa [riseTo] using List.length_filter_le (fun i => decide (x / 2 ^ i % 2 = 1)) (List.range k)
theorem riseTo_stands {x k : Nat} : standsP (riseTo x k) k = decide (riseTo x k ≠ []) := by
  rw [standsP]
  exact decide_eq_decide.2 ⟨fun h => h.1, fun h => ⟨h, riseTo_pair x k, fun i hi => riseTo_lt hi⟩⟩
set_option maxRecDepth 100000 in
set_option maxHeartbeats 1000000 in
theorem rising_any (n : Nat) (hn : n ≤ 64) (x : Nat) (hx : x < 18446744073709551616) (w : World) :
    Calls Tryz.prog 7 #[.int .i64 (n : Int), .int .u64 (x : Int)] w fun e w' => ∃ v, e = .returned v ∧ w'.ownsRow w.heap.size 23 1 v (riseTo x n).length ((riseTo x n).map encU) ∧ Below w.heap.size w w' := by
  go_enter Tryz.func7, Tryz.ntmps7
  go_wp2
  go_loopw [5, 6] (fun v vi wr => ∃ k : Nat, k ≤ n ∧ vi = .int .i64 (k : Int) ∧ Hid (wr.ownsRow w.heap.size 23 1 v (riseTo x k).length ((riseTo x k).map encU)) ∧ Hid (Below w.heap.size w wr)) (fun _ vi _ => n - (intOf vi).toNat)
  case atStart => exact ⟨0, Nat.zero_le _, rfl, Lib.hid (World.ownsRow_nil _ _ _ _), Lib.hid (Below.refl _ _)⟩
  case round =>
    obtain ⟨k, hk, rfl, HO, HB⟩ := hrel
    by_cases hlt : k < n
    · have h1 : (k : Int) < (n : Int) := by omega
      have h2 : (k : Int) < 64 := by omega
      have k0 : (0 : Int) ≤ (k : Int) := by omega
      have hwk : IntKind.u64.wrap (k : Int) = (k : Int) := by rw [IntKind.wrap_u64]; omega
      have HS := Lib.hid (riseTo_succ x k)
      by_cases hb : x / 2 ^ k % 2 = 1
      · have hbi : bits .and .u64 ((x : Int) / 2 ^ k) 1 = 1 := by rw [bit_and x k hx, hb]; rfl
        rw [if_pos hb] at HS
        clear hb
        go_wp2_with (at_builtin; refine append_num rfl _ _ rfl rfl rfl HO.out (by have := riseTo_len x k; omega) HB.out.size ?_; intro v3 w3 ho3 hg3; have HO3 := Lib.hid ho3; have HG3 := Lib.hid hg3; clear ho3 hg3)
        go_roundw
        case rel => exact ⟨k + 1, hlt, by go_num, Lib.hid (by rw [HS.out]; exact HO3.out), Lib.hid (HB.out.grown HG3.out HB.out.size (fun j e => row_low HO.out (Nat.le_refl _) j e))⟩
        case measure => simp [intOf] <;> omega
      · have hbi : bits .and .u64 ((x : Int) / 2 ^ k) 1 = 0 := by rw [bit_and x k hx, show x / 2 ^ k % 2 = 0 by omega]; rfl
        rw [if_neg hb] at HS
        clear hb
        go_wp2
        go_roundw
        case rel => exact ⟨k + 1, hlt, by go_num, Lib.hid (by rw [HS.out]; exact HO.out), HB⟩
        case measure => simp [intOf] <;> omega
    · have h1 : ¬ (k : Int) < (n : Int) := by omega
      have HF := Lib.hid (show wr.ownsRow w.heap.size 23 1 u5 (riseTo x n).length ((riseTo x n).map encU) from by
        have hkn : k = n := by omega
        rw [← hkn]; exact HO.out)
      go_wp2
      go_ret
      exact ⟨_, rfl, HF.out, HB.out⟩
theorem errno_any (x y : Int) (w : World) : Calls Tryz.prog 27 #[.int .i64 x, .int .i64 y] w fun e w' => e = .returned (.bool (x == y)) ∧ w = w' := by
  go_enter Tryz.func27, Tryz.ntmps27
  go_wp2
  go_ret
  exact ⟨rfl, rfl⟩
theorem alike_any (ao bo : Option Addr) (ca cb n : Nat) (L : List (List UInt8)) (w : World) (hn : n = L.length) (hL : L.length ≤ 100000) (ha : Strs ao L w) (hb : Strs bo L w) :
    Calls Tryz.prog 10 #[.slice ao L.length ca, .slice bo n cb] w fun e w' => e = .returned (.bool true) ∧ Below w.heap.size w w' := by
  subst hn
  have HA := Lib.hid ha
  have HB := Lib.hid hb
  clear ha hb
  go_enter Tryz.func10, Tryz.ntmps10
  go_wp2
  go_loopw [5] (fun i wr => ∃ k : Nat, k ≤ L.length ∧ i = .int .i64 (k : Int) ∧ Below w.heap.size w wr)
    (fun i _ => L.length - (intOf i).toNat)
  case atStart => exact ⟨0, by omega, rfl, Below.refl _ _⟩
  case round =>
    obtain ⟨k, hk, rfl, hbe⟩ := hrel
    by_cases hlt : k < L.length
    · obtain ⟨b1, o1, rfl, hc1⟩ := (HA.out.below (Nat.le_refl _) hbe).cell k hlt
      obtain ⟨b2, o2, rfl, hc2⟩ := (HB.out.below (Nat.le_refl _) hbe).cell k hlt
      generalize L[k] = X at *
      have k0 : (0 : Int) ≤ (k : Int) := by omega
      have k1 : (k : Int) < (L.length : Int) := by omega
      go_wp2
      go_quiet (fail)
      have hbn := Below_drewN' hbe nq
      go_wp2
      go_roundw
      case rel => exact ⟨k + 1, by omega, by go_num, hbn⟩
      case measure => simp [intOf]; omega
    · have k1 : ¬ (k : Int) < (L.length : Int) := by omega
      go_wp2
      go_ret
      exact ⟨rfl, hbe⟩
end Go.Proofs.YtfghggfoncfhgaaGreatDoor
/- The law's works: three elements, one of which is proved. -/
namespace Go.Proofs.YtfghggfoncfhgaaGreatDoor
open Go.RowKit Go.Sort

theorem proof_works (a b c : (List UInt8)) : proofD [a, b, c] [0] = [hashL leafT [c], hashL nodeT [hashL leafT [b], hashL noneT []]] := by
  have e : flat (needM (lvs [0] (dep ([a, b, c] : List (List UInt8)).length)) (dep ([a, b, c] : List (List UInt8)).length)) = [(0, 1), (1, 1)] := by
    rw [show ([a, b, c] : List (List UInt8)).length = 3 from rfl]
    decide +kernel
  rw [proofD, e, show dep ([a, b, c] : List (List UInt8)).length = 2 by rw [show ([a, b, c] : List (List UInt8)).length = 3 from rfl]; decide +kernel]
  simp only [List.map_cons, List.map_nil, dg]
  rw [gl_in (L := [a, b, c]) (d := 2) (k := 1) (i := 2) (by decide +kernel) (by simp), gl_in (L := [a, b, c]) (d := 2) (k := 2 * 1) (i := 1) (by decide +kernel) (by simp), gl_out (L := [a, b, c]) (d := 2) (k := 2 * 1 + 1) (by simp; decide +kernel)]
  rfl
set_option maxRecDepth 100000 in
set_option maxHeartbeats 4000000 in
theorem works10_any (w : World) (hg : Glob w) : Calls Tryz.prog 11 #[] w fun e w' => e = .returned (.bool true) ∧ Below w.heap.size w w' := by
  have hlA := hashL_len leafT [[97]]
  have hlB := hashL_len leafT [[98]]
  have hlC := hashL_len leafT [[99]]
  have hlN := hashL_len noneT []
  have hP := proof_works [97] [98] [99]
  have r3 := root_3 [97] [98] [99]
  have HPg := Lib.hid (fun t wz (h : TreeM [[97], [98], [99]] wz t) => (prove_good [[97], [98], [99]] t (some ⟨wz.heap.size, 0, none⟩) 1 [0] (wz.alloc (.cells #[.int .u64 0] 23)) (h.below (by0 wz _)) (nums_lit (heap_alloc_new wz _) rfl) (by decide) (by decide)))
  rw [hP] at HPg
  obtain ⟨A, hA⟩ : ∃ A, hashL leafT [[97]] = A := ⟨_, rfl⟩
  obtain ⟨B, hB⟩ : ∃ B, hashL leafT [[98]] = B := ⟨_, rfl⟩
  obtain ⟨C, hC⟩ : ∃ C, hashL leafT [[99]] = C := ⟨_, rfl⟩
  obtain ⟨N, hN⟩ : ∃ N, hashL noneT [] = N := ⟨_, rfl⟩
  rw [hA, hB, hC, hN] at r3
  rw [hB, hC, hN] at HPg
  rw [hA] at hlA; rw [hB] at hlB; rw [hC] at hlC; rw [hN] at hlN
  have hlQ1 := hashL_len nodeT [A, C]
  have HQ1 := Lib.hid (show ∀ wz, Wl w wz → Calls Tryz.prog 26 #[.string ⟨#[110, 111, 100, 101]⟩, .slice (some ⟨wz.heap.size, 0, none⟩) 2 2] (wz.alloc (.cells #[.string ⟨A.toArray⟩, .string ⟨C.toArray⟩] 9)) (fun e w' => e = .returned (.string ⟨(hashL nodeT [A, C]).toArray⟩) ∧ Below wz.heap.size wz w') from fun wz h => hash2_any nodeT A C wz h.g (by decide) (by omega) (by omega))
  have hlQ2 := hashL_len nodeT [B, N]
  have HQ2 := Lib.hid (show ∀ wz, Wl w wz → Calls Tryz.prog 26 #[.string ⟨#[110, 111, 100, 101]⟩, .slice (some ⟨wz.heap.size, 0, none⟩) 2 2] (wz.alloc (.cells #[.string ⟨B.toArray⟩, .string ⟨N.toArray⟩] 9)) (fun e w' => e = .returned (.string ⟨(hashL nodeT [B, N]).toArray⟩) ∧ Below wz.heap.size wz w') from fun wz h => hash2_any nodeT B N wz h.g (by decide) (by omega) (by omega))
  generalize hashL nodeT [A, C] = Q1 at *
  generalize hashL nodeT [B, N] = Q2 at *
  have HQ3 := Lib.hid (show ∀ wz, Wl w wz → Calls Tryz.prog 26 #[.string ⟨#[110, 111, 100, 101]⟩, .slice (some ⟨wz.heap.size, 0, none⟩) 2 2] (wz.alloc (.cells #[.string ⟨Q1.toArray⟩, .string ⟨Q2.toArray⟩] 9)) (fun e w' => e = .returned (.string ⟨(hashL nodeT [Q1, Q2]).toArray⟩) ∧ Below wz.heap.size wz w') from fun wz h => hash2_any nodeT Q1 Q2 wz h.g (by decide) (by omega) (by omega))
  generalize hashL nodeT [Q1, Q2] = Q3 at *
  have HHA := Lib.hid (show ∀ wz, Wl w wz → Calls Tryz.prog 26 #[.string ⟨#[108, 101, 97, 102]⟩, .slice (some ⟨wz.heap.size, 0, none⟩) 1 1] (wz.alloc (.cells #[.string ⟨#[97]⟩] 9)) (fun e w' => e = .returned (.string ⟨(hashL leafT [[97]]).toArray⟩) ∧ Below wz.heap.size wz w') from fun wz h => hash1_any leafT [97] wz h.g (by decide) (by decide))
  rw [hA] at HHA
  have HHB := Lib.hid (show ∀ wz, Wl w wz → Calls Tryz.prog 26 #[.string ⟨#[108, 101, 97, 102]⟩, .slice (some ⟨wz.heap.size, 0, none⟩) 1 1] (wz.alloc (.cells #[.string ⟨#[98]⟩] 9)) (fun e w' => e = .returned (.string ⟨(hashL leafT [[98]]).toArray⟩) ∧ Below wz.heap.size wz w') from fun wz h => hash1_any leafT [98] wz h.g (by decide) (by decide))
  rw [hB] at HHB
  have HHC := Lib.hid (show ∀ wz, Wl w wz → Calls Tryz.prog 26 #[.string ⟨#[108, 101, 97, 102]⟩, .slice (some ⟨wz.heap.size, 0, none⟩) 1 1] (wz.alloc (.cells #[.string ⟨#[99]⟩] 9)) (fun e w' => e = .returned (.string ⟨(hashL leafT [[99]]).toArray⟩) ∧ Below wz.heap.size wz w') from fun wz h => hash1_any leafT [99] wz h.g (by decide) (by decide))
  rw [hC] at HHC
  have HHN := Lib.hid (show ∀ wz, Wl w wz → Calls Tryz.prog 26 #[.string ⟨#[110, 111, 110, 101]⟩, .slice none 0 0] wz (fun e w' => e = .returned (.string ⟨(hashL noneT []).toArray⟩) ∧ Below wz.heap.size wz w') from fun wz h => hash_any noneT none 0 [] wz h.g (.inl rfl) (by decide) (by decide))
  rw [hN] at HHN
  have HB1 := Lib.hid (show ∀ wz, Wl w wz → Calls Tryz.prog 6 #[.slice (some ⟨wz.heap.size, 0, none⟩) 3 3] (wz.alloc (.cells #[.string ⟨#[97]⟩, .string ⟨#[98]⟩, .string ⟨#[99]⟩] 9)) (fun e w' => ∃ t, e = .returned (.tuple #[.pointer (some ⟨t, 0, none⟩), .int .i64 0]) ∧ TreeM [[97], [98], [99]] w' t ∧ Below wz.heap.size wz w') from fun wz h => (build_any (some ⟨wz.heap.size, 0, none⟩) 3 [[97], [98], [99]] _ (h.g.below h.g.size (by0 wz _)) (strs_new wz [[97], [98], [99]] _ rfl) (by decide) (by decide)).mono fun e w' ⟨t, h1, h2, _, h3⟩ => ⟨t, h1, h2, below_next (by0 wz _) h3⟩)
  have HP := Lib.hid (show ∀ t wz, TreeM [[97], [98], [99]] wz t → Calls Tryz.prog 8 #[.pointer (some ⟨t, 0, none⟩), .slice (some ⟨wz.heap.size, 0, none⟩) 1 1] (wz.alloc (.cells #[.int .u64 0] 23)) (fun e w' => ∃ ao cp, e = .returned (.tuple #[.slice ao 2 cp, .int .i64 0]) ∧ Strs ao [C, Q2] w' ∧ Below wz.heap.size wz w') from fun t wz h => (HPg.out t wz h).mono fun e w' ⟨v, h1, h2, h3⟩ => by
    obtain ⟨ao, cp, rfl, hs⟩ := strs_of_row h2
    exact ⟨ao, cp, h1, hs, below_next (by0 wz _) h3⟩)
  have HAL := Lib.hid (show ∀ ao cp wz, Strs ao [C, Q2] wz → Calls Tryz.prog 10 #[.slice ao 2 cp, .slice (some ⟨wz.heap.size, 0, none⟩) 2 2] (wz.alloc (.cells #[.string ⟨C.toArray⟩, .string ⟨Q2.toArray⟩] 9)) (fun e w' => e = .returned (.bool true) ∧ Below wz.heap.size wz w') from fun ao cp wz h => (alike_any ao (some ⟨wz.heap.size, 0, none⟩) cp 2 2 [C, Q2] _ rfl (by simp) (h.below (Nat.le_refl _) (by0 wz _)) (strs_new wz [C, Q2] _ rfl)).mono fun e w' ⟨h1, h3⟩ => ⟨h1, below_next (by0 wz _) h3⟩)
  have HT1 := Lib.hid (fun t wz (h : TreeM [[97], [98], [99]] wz t) => rootT_any [[97], [98], [99]] t wz h)
  rw [r3] at HT1
  have HE := Lib.hid (fun wz => errno_any 0 0 wz)
  have K := Lib.hid (show Wl w w from ⟨hg, Below.refl _ _⟩)
  clear r3 hlA hlB hlC hlN hlQ1 hlQ2 hA hB hC hN hg hP HPg
  go_enter Tryz.func11, Tryz.ntmps11
  go_wp2_with (first
    | (go_at_call 26; with_reducible refine (HHA.out _ K.out).mono ?_; rintro e wn ⟨rfl, bn⟩; (try have T1 := Lib.hid (T1.out.below bn)); (try have PS := Lib.hid (PS.out.below (Nat.le_refl _) bn)); have K := Lib.hid (K.out.next bn))
    | (go_at_call 26; with_reducible refine (HHB.out _ K.out).mono ?_; rintro e wn ⟨rfl, bn⟩; (try have T1 := Lib.hid (T1.out.below bn)); (try have PS := Lib.hid (PS.out.below (Nat.le_refl _) bn)); have K := Lib.hid (K.out.next bn))
    | (go_at_call 26; with_reducible refine (HHC.out _ K.out).mono ?_; rintro e wn ⟨rfl, bn⟩; (try have T1 := Lib.hid (T1.out.below bn)); (try have PS := Lib.hid (PS.out.below (Nat.le_refl _) bn)); have K := Lib.hid (K.out.next bn))
    | (go_at_call 26; with_reducible refine (HHN.out _ K.out).mono ?_; rintro e wn ⟨rfl, bn⟩; (try have T1 := Lib.hid (T1.out.below bn)); (try have PS := Lib.hid (PS.out.below (Nat.le_refl _) bn)); have K := Lib.hid (K.out.next bn))
    | (go_at_call 26; with_reducible refine (HQ1.out _ K.out).mono ?_; rintro e wn ⟨rfl, bn⟩; (try have T1 := Lib.hid (T1.out.below bn)); (try have PS := Lib.hid (PS.out.below (Nat.le_refl _) bn)); have K := Lib.hid (K.out.next bn))
    | (go_at_call 26; with_reducible refine (HQ2.out _ K.out).mono ?_; rintro e wn ⟨rfl, bn⟩; (try have T1 := Lib.hid (T1.out.below bn)); (try have PS := Lib.hid (PS.out.below (Nat.le_refl _) bn)); have K := Lib.hid (K.out.next bn))
    | (go_at_call 26; with_reducible refine (HQ3.out _ K.out).mono ?_; rintro e wn ⟨rfl, bn⟩; (try have T1 := Lib.hid (T1.out.below bn)); (try have PS := Lib.hid (PS.out.below (Nat.le_refl _) bn)); have K := Lib.hid (K.out.next bn))
    | (go_at_call 6; with_reducible refine (HB1.out _ K.out).mono ?_; rintro e wn ⟨t1, rfl, hT1, bn⟩; have K := Lib.hid (K.out.next bn); have T1 := Lib.hid hT1; clear hT1)
    | (go_at_call 8; with_reducible refine (HP.out _ _ T1.out).mono ?_; rintro e wn ⟨ao, cp, rfl, hPS, bn⟩; (have T1 := Lib.hid (T1.out.below bn)); have K := Lib.hid (K.out.next bn); have PS := Lib.hid hPS; clear hPS)
    | (go_at_call 27; with_reducible refine (HE.out _).mono ?_; rintro e wn ⟨rfl, rfl⟩; skip)
    | (go_at_call 10; with_reducible refine (HAL.out _ _ _ PS.out).mono ?_; rintro e wn ⟨rfl, bn⟩; (have T1 := Lib.hid (T1.out.below bn)); have K := Lib.hid (K.out.next bn))
    | (go_at_call 28; with_reducible refine (HT1.out _ _ T1.out).mono ?_; rintro e wn ⟨rfl, rfl⟩; skip))
  exact bodyPost_ret (v := .bool true) (by simp [results, Tryz.results11, go_sem]) rfl ⟨rfl, K.out.o⟩
end Go.Proofs.YtfghggfoncfhgaaGreatDoor
