/- The document's own tree. -/
import Derived.Test.YtjfhcckadibhgaaDoorAj
import Derived.Test.YtjfhcckadibhgaaDoorDr
import Derived.Test.YtjfhcckadibhgaaDoorBe
namespace Go.Proofs.YtjfhcckadibhgaaDoor
open Go.RowKit

theorem info_str : (Tryd.prog.info? 9).map (fun i => (i.zero, i.size, i.bytes)) = some (some (.string ⟨#[]⟩), 1, 16) := by kernel_rfl
def strC (L : List (List UInt8)) : List Value := L.map fun x => Value.string ⟨x.toArray⟩
theorem strC_get {L : List (List UInt8)} {i : Nat} (h : i < L.length) : (strC L)[i]? = some (.string ⟨L[i].toArray⟩) := by simp [strC, h]
theorem strC_len (L : List (List UInt8)) : (strC L).length = L.length := by simp [strC]
theorem strC_one (L : List (List UInt8)) : ∀ v ∈ strC L, v.oneCell' = true := by
  intro v hv
  obtain ⟨x, _, rfl⟩ := List.mem_map.1 hv
  rfl
/-- the document's tree in memory: a list of its own -/
structure RefM (L : List (List UInt8)) (w : World) (t : Nat) : Prop where
  blk : (L = [] ∧ w.heap[t]? = some (Obj.cells #[.slice none 0 0] 57 (0, 0))) ∨
    ∃ (b cp : Nat) (cs : Array Value), w.heap[t]? = some (Obj.cells #[.slice (some ⟨b, 0, none⟩) L.length cp] 57 (0, 0)) ∧ w.heap[b]? = some (Obj.cells cs 9 (0, 0)) ∧ ∀ i (h : i < L.length), cs[i]? = some (.string ⟨L[i].toArray⟩)
theorem RefM.below {L : List (List UInt8)} {w w' : World} {t : Nat} (h : RefM L w t) (hb : Below w.heap.size w w') : RefM L w' t := by
  rcases h.blk with ⟨h0, h1⟩ | ⟨b, cp, cs, h1, h2, h3⟩
  · exact ⟨.inl ⟨h0, (hb.block t (lit_lt h1)).trans h1⟩⟩
  · exact ⟨.inr ⟨b, cp, cs, (hb.block t (lit_lt h1)).trans h1, (hb.block b (lit_lt h2)).trans h2, h3⟩⟩
theorem RefM.slice {L : List (List UInt8)} {w : World} {t : Nat} (h : RefM L w t) : ∃ ao cp, w.cell? ⟨t, 0, none⟩ = some (.slice ao L.length cp) ∧ Strs ao L w := by
  rcases h.blk with ⟨rfl, h1⟩ | ⟨b, cp, cs, h1, h2, h3⟩
  · exact ⟨none, 0, (lit_cell h1 0).trans rfl, .inl rfl⟩
  · refine ⟨_, cp, (lit_cell h1 0).trans rfl, .inr ⟨b, 0, rfl, lit_lt h2, fun i hi => ?_⟩⟩
    rw [Nat.zero_add, lit_cell h2]
    exact h3 i hi
theorem refDepthT_any (L : List (List UInt8)) (t : Nat) (w : World) (h : RefM L w t) (hL : L.length ≤ 65536) : Calls Tryd.prog 14 #[.pointer (some ⟨t, 0, none⟩)] w fun e w' => e = .returned (.int .i64 (dep L.length : Int)) ∧ w = w' := by
  have HD := Lib.hid (show Calls Tryd.prog 30 #[.int .i64 (L.length : Int)] w fun e w' => e = .returned (.int .i64 (dep L.length : Int)) ∧ w = w' from by
    have h2 := refDepth_any (L.length : Int) w
    rwa [depthV, if_neg (by omega), Int.toNat_natCast] at h2)
  obtain ⟨ao, cp, c0, _⟩ := h.slice
  clear h
  go_enter Tryd.func14, Tryd.ntmps14
  go_wp2_with (go_at_call 30; refine HD.out.mono ?_; rintro e w' ⟨rfl, rfl⟩)
  go_ret
  exact ⟨rfl, rfl⟩
set_option maxRecDepth 100000 in
set_option maxHeartbeats 1000000 in
theorem refDigest_any (L : List (List UInt8)) (t : Nat) (hL : L.length ≤ 65536) (hl : ∀ i (h : i < L.length), L[i].length ≤ 10000000) : ∀ (l k : Nat) (w : World), RefM L w t → (k + 1) * 2 ^ l ≤ 65536 →
    Calls Tryd.prog 29 #[.pointer (some ⟨t, 0, none⟩), .int .i64 (l : Int), .int .u64 (k : Int)] w fun e w' => e = .returned (.string ⟨(dg (gl L (dep L.length)) l k).toArray⟩) ∧ Below w.heap.size w w'
  | 0, k, w, hR, hk => by
    have hk2 : k < 65536 := by simp at hk; omega
    have HD := Lib.hid (refDepthT_any L t w hR hL)
    have HE := Lib.hid (fun w => refElement_any k (dep L.length : Int) w)
    have h0 : ¬ (0 : Int) < ((0 : Nat) : Int) := by omega
    obtain ⟨ao, cp, c0, hS⟩ := hR.slice
    have hu : IntKind.u64.wrap (L.length : Int) = (L.length : Int) := by rw [IntKind.wrap_u64]; omega
    by_cases hi : turnB k (dep L.length : Int) < L.length
    · have hg : dg (gl L (dep L.length)) 0 k = hashL leafT [L[turnB k (dep L.length : Int)]] := dif_pos hi
      have HX : Hid (L[turnB k (dep L.length : Int)].length ≤ 10000000) := Lib.hid (hl _ hi)
      obtain ⟨b, o, rfl, hc⟩ := hS.cell _ hi
      rw [hg]
      generalize hX : L[turnB k (dep L.length : Int)] = X at *
      have HH := Lib.hid (fun w' hs' => refHash_any leafT (some ⟨w.heap.size, 0, none⟩) 1 [X] w' hs' (by decide) (Nat.lt_of_lt_of_le (framed_short leafT [X] (by decide) (by simpa using HX.out) (by simp)) (by decide)))
      have k0 : (0 : Int) ≤ (turnB k (dep L.length : Int) : Int) := by omega
      have k1 : (turnB k (dep L.length : Int) : Int) < (L.length : Int) := by omega
      have k2 : ¬ (L.length : Int) ≤ (turnB k (dep L.length : Int) : Int) := by omega
      clear hR hk hk2 hg hS hX
      generalize turnB k (dep L.length : Int) = j at *
      go_enter Tryd.func29, Tryd.ntmps29
      go_wp2_with (first | (go_at_call 14; refine HD.out.mono ?_; rintro e w' ⟨rfl, rfl⟩) | (go_at_call 43; refine (HE.out _).mono ?_; rintro e w' ⟨rfl, rfl⟩) | (go_at_call 42; refine (HH.out _ (strs_new w [X] _ rfl)).mono ?_; rintro e w1 ⟨rfl, hb1⟩))
      go_ret
      exact ⟨rfl, below_next (by0 w _) hb1⟩
    · have hg : dg (gl L (dep L.length)) 0 k = hashL noneT [] := dif_neg hi
      have HH := Lib.hid (refHash_any noneT none 0 [] w (.inl rfl) (by decide) (by decide))
      have k2 : (L.length : Int) ≤ (turnB k (dep L.length : Int) : Int) := by omega
      rw [hg]
      clear hR hk hk2 hg hS
      generalize turnB k (dep L.length : Int) = j at *
      go_enter Tryd.func29, Tryd.ntmps29
      go_wp2_with (first | (go_at_call 14; refine HD.out.mono ?_; rintro e w' ⟨rfl, rfl⟩) | (go_at_call 43; refine (HE.out _).mono ?_; rintro e w' ⟨rfl, rfl⟩) | (go_at_call 42; refine HH.out.mono ?_; rintro e w1 ⟨rfl, hb1⟩))
      go_ret
      exact ⟨rfl, hb1⟩
  | l + 1, k, w, hR, hk => by
    have hk1 : (2 * k + 1) * 2 ^ l ≤ 65536 ∧ (2 * k + 1 + 1) * 2 ^ l ≤ 65536 ∧ k < 65536 := by
      obtain ⟨_, e2, e3, e4⟩ := kid_range l k
      have hp := Nat.two_pow_pos l
      refine ⟨by omega, by omega, ?_⟩
      have : 2 * k + 1 + 1 ≤ (2 * k + 1 + 1) * 2 ^ l := Nat.le_mul_of_pos_right _ hp
      omega
    have I1 := Lib.hid (fun w h => refDigest_any L t hL hl l (2 * k) w h hk1.1)
    have I2 := Lib.hid (fun w h => refDigest_any L t hL hl l (2 * k + 1) w h hk1.2.1)
    have hgl := gl_len L (dep L.length)
    have hd1 := dg_len hgl l (2 * k)
    have hd2 := dg_len hgl l (2 * k + 1)
    have h0 : (0 : Int) < ((l + 1 : Nat) : Int) := by omega
    have e1 : ((l + 1 : Nat) : Int) - 1 = (l : Int) := by omega
    have hl16 : l < 65536 := by
      have h2 : l < 2 ^ l := Nat.lt_two_pow_self
      have : 2 ^ l ≤ (2 * k + 1) * 2 ^ l := Nat.le_mul_of_pos_left _ (by omega)
      omega
    have e2 : IntKind.i64.wrap (l : Int) = (l : Int) := by rw [IntKind.wrap_i64]; omega
    have e3 : IntKind.u64.wrap (2 * (k : Int)) = ((2 * k : Nat) : Int) := by rw [IntKind.wrap_u64]; omega
    have e4 : IntKind.u64.wrap (((2 * k : Nat) : Int) + 1) = ((2 * k + 1 : Nat) : Int) := by rw [IntKind.wrap_u64]; omega
    have HR := Lib.hid hR
    rw [show dg (gl L (dep L.length)) (l + 1) k = hashL nodeT [dg (gl L (dep L.length)) l (2 * k), dg (gl L (dep L.length)) l (2 * k + 1)] from rfl]
    generalize dg (gl L (dep L.length)) l (2 * k) = D1 at *
    generalize dg (gl L (dep L.length)) l (2 * k + 1) = D2 at *
    have HH := Lib.hid (fun b w' hs' => refHash_any nodeT (some ⟨b, 0, none⟩) 2 [D1, D2] w' hs' (by decide) (Nat.lt_of_lt_of_le (framed_short nodeT [D1, D2] (by decide) (by intro z hz; simp at hz; rcases hz with rfl | rfl <;> omega) (by simp)) (by decide)))
    generalize hK1 : 2 * k + 1 = K1 at *
    generalize hK : 2 * k = K at *
    generalize hq : l + 1 = q at *
    clear hR hk hk1 hl16 hgl hd1 hd2 hK hK1
    go_enter Tryd.func29, Tryd.ntmps29
    go_upto_region 2 with fail
    go_wp2_with fail
    refine (I1.out _ HR.out).mono ?_
    rintro e w1 ⟨rfl, hb1⟩
    have HR1 := Lib.hid (HR.out.below hb1)
    go_wp2_with fail
    refine (I2.out _ HR1.out).mono ?_
    rintro e w2 ⟨rfl, hb2⟩
    have HB2 := Lib.hid (below_next hb1 hb2)
    go_wp2_with fail
    refine (HH.out _ _ (strs_new w2 [D1, D2] _ rfl)).mono ?_
    rintro e w3 ⟨rfl, hb3⟩
    go_wp2
    go_ret
    exact ⟨rfl, below_next (below_alloc HB2.out _) hb3⟩
theorem refRoot_any (L : List (List UInt8)) (t : Nat) (w : World) (h : RefM L w t) (hL : L.length ≤ 65536) (hl : ∀ i (h : i < L.length), L[i].length ≤ 10000000) : Calls Tryd.prog 12 #[.pointer (some ⟨t, 0, none⟩)] w fun e w' => e = .returned (.string ⟨(rootD L).toArray⟩) ∧ Below w.heap.size w w' := by
  have HD := Lib.hid (refDepthT_any L t w h hL)
  have hd := dep_le L.length hL
  have HG := Lib.hid (refDigest_any L t hL hl (dep L.length) 0 w h (by rw [Nat.zero_add, Nat.one_mul]; exact Nat.pow_le_pow_right (by decide) hd))
  rw [show dg (gl L (dep L.length)) (dep L.length) 0 = rootD L from rfl] at HG
  clear h hL hl hd
  generalize rootD L = R at *
  go_enter Tryd.func12, Tryd.ntmps12
  go_wp2_with (first | (go_at_call 14; refine HD.out.mono ?_; rintro e w' ⟨rfl, rfl⟩) | (go_at_call 29; refine HG.out.mono ?_; rintro e w' ⟨rfl, hb⟩))
  go_ret
  exact ⟨rfl, hb⟩
set_option maxRecDepth 100000 in
set_option maxHeartbeats 1000000 in
theorem refAt_any (L : List (List UInt8)) (t : Nat) (level : Int) (k : Nat) (w : World) (hT : RefM L w t) (hL : L.length ≤ 65536) (hl : ∀ i (h : i < L.length), L[i].length ≤ 10000000) :
    Calls Tryd.prog 17 #[.pointer (some ⟨t, 0, none⟩), .int .i64 level, .int .u64 (k : Int)] w fun e w' => e = .returned (atV L level k) ∧ Below w.heap.size w w' := by
  have HD := Lib.hid (refDepthT_any L t w hT hL)
  have hd := dep_le L.length hL
  by_cases h0 : level < 0
  · have e : atIn (dep L.length) level k = false := by simp [atIn]; omega
    rw [atV, atD, e]
    clear hl hT hL
    go_enter Tryd.func17, Tryd.ntmps17
    go_wp2_with (go_at_call 14; refine HD.out.mono ?_; rintro e w' ⟨rfl, rfl⟩)
    exact bodyPost_ret (v := .tuple #[.string ⟨#[]⟩, .bool false]) (by simp [results, Tryd.results17, go_sem]) rfl ⟨rfl, Below.refl _ _⟩
  by_cases h1 : (dep L.length : Int) < level
  · have e : atIn (dep L.length) level k = false := by simp [atIn]; omega
    rw [atV, atD, e]
    clear hl hT hL
    go_enter Tryd.func17, Tryd.ntmps17
    go_wp2_with (go_at_call 14; refine HD.out.mono ?_; rintro e w' ⟨rfl, rfl⟩)
    exact bodyPost_ret (v := .tuple #[.string ⟨#[]⟩, .bool false]) (by simp [results, Tryd.results17, go_sem]) rfl ⟨rfl, Below.refl _ _⟩
  obtain ⟨v, rfl⟩ : ∃ v : Nat, level = (v : Int) := ⟨level.toNat, by omega⟩
  obtain ⟨E, hE⟩ : ∃ E, E = dep L.length - v := ⟨_, rfl⟩
  have hdv : (dep L.length : Int) - (v : Int) = (E : Int) := by omega
  have hatin : atIn (dep L.length) (v : Int) k = decide (k < 2 ^ E) := by
    rw [hE]
    simp [atIn]
    omega
  have hE16 : E ≤ 16 := by omega
  obtain ⟨hs1, hs2, hs3⟩ := shl_pow hE16
  rw [atV, hatin]
  by_cases hkE : k < 2 ^ E
  · have hatD : atD L (v : Int) k = dg (gl L (dep L.length)) v k := by
      rw [atD, hatin, if_pos (by simpa using hkE)]
      rfl
    have HG := Lib.hid (refDigest_any L t hL hl v k w hT (by
      have h1 : (k + 1) * 2 ^ v ≤ 2 ^ E * 2 ^ v := Nat.mul_le_mul_right _ hkE
      rw [← Nat.pow_add] at h1
      exact Nat.le_trans h1 (Nat.le_trans (Nat.pow_le_pow_right (by decide) (show E + v ≤ 16 by omega)) (by decide))))
    have hlt : ¬ (2 : Int) ^ E ≤ (k : Int) := by rw [hs2]; omega
    rw [hatD, decide_eq_true hkE]
    clear hatD hkE hs2 hs3 hl hT hL hatin hE
    generalize dg (gl L (dep L.length)) v k = R at *
    generalize dep L.length = d at *
    go_enter Tryd.func17, Tryd.ntmps17
    go_wp2_with (first | (go_at_call 14; refine HD.out.mono ?_; rintro e w' ⟨rfl, rfl⟩) | (go_at_call 29; refine HG.out.mono ?_; rintro e w' ⟨rfl, hb⟩))
    exact bodyPost_ret (v := .tuple #[.string ⟨R.toArray⟩, .bool true]) (by simp [results, Tryd.results17, go_sem]) rfl ⟨rfl, hb⟩
  · have hatD : atD L (v : Int) k = [] := by rw [atD, hatin, if_neg (by simpa using hkE)]
    have hlt : (2 : Int) ^ E ≤ (k : Int) := by rw [hs2]; omega
    rw [hatD, decide_eq_false hkE]
    clear hatD hkE hs2 hs3 hl hT hL hatin hE
    generalize dep L.length = d at *
    go_enter Tryd.func17, Tryd.ntmps17
    go_wp2_with (go_at_call 14; refine HD.out.mono ?_; rintro e w' ⟨rfl, rfl⟩)
    exact bodyPost_ret (v := .tuple #[.string ⟨#[]⟩, .bool false]) (by simp [results, Tryd.results17, go_sem]) rfl ⟨rfl, Below.refl _ _⟩
end Go.Proofs.YtjfhcckadibhgaaDoor
