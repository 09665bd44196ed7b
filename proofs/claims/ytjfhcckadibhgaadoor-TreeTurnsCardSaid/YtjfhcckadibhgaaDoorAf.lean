/- A tree's leaves, in a row. -/
import Derived.Test.YtjfhcckadibhgaaDoorAe
import Derived.Test.YtjfhcckadibhgaaDoorBd
namespace Go.Proofs.YtjfhcckadibhgaaDoor
open Go.RowKit

theorem below_next {w wz wa : World} (h : Below w.heap.size w wz) (hb : Below wz.heap.size wz wa) : Below w.heap.size w wa := h.trans (hb.mono h.size)
theorem below_alloc {w wz : World} (h : Below w.heap.size w wz) (o : Obj) : Below w.heap.size w (wz.alloc o) := below_next h (by0 wz o)
/-- a level in a row of its own -/
structure RowT (g : Nat → (List UInt8)) (w : World) (l n B : Nat) : Prop where
  blk : ∃ cs : Array Value, w.heap[B]? = some (Obj.cells cs 53 (0, 0)) ∧ n ≤ cs.size
  at_ : ∀ k, k < n → ∃ b, w.cell? ⟨B, k, none⟩ = some (.pointer (some ⟨b, 0, none⟩)) ∧ InT g w l k b
theorem RowT.lt {g : Nat → (List UInt8)} {w : World} {l n B : Nat} (h : RowT g w l n B) : B < w.heap.size := by
  obtain ⟨cs, h1, _⟩ := h.blk
  exact lit_lt h1
theorem RowT.below {g : Nat → (List UInt8)} {w w' : World} {l n B : Nat} (h : RowT g w l n B) (hb : Below w.heap.size w w') : RowT g w' l n B := by
  have e := hb.block B h.lt
  refine ⟨?_, fun k hk => ?_⟩
  · obtain ⟨cs, h1, h2⟩ := h.blk
    exact ⟨cs, e.trans h1, h2⟩
  · obtain ⟨b, h1, h2⟩ := h.at_ k hk
    exact ⟨b, (World.cell?_of_block (a := ⟨B, k, none⟩) e).trans h1, h2.below hb⟩
theorem place_type {w : World} {b B : Nat} {C cs : Array Value} (h : w.heap[b]? = some (Obj.cells C 61 (0, 0))) (k : w.heap[B]? = some (Obj.cells cs 53 (0, 0))) : b ≠ B := by
  rintro rfl
  rw [h] at k
  cases k
theorem RowT.put {g g' : Nat → (List UInt8)} {w : World} {n B j b : Nat} (h : RowT g w 0 n B) (hj : j < n) (hb : w.heap[b]? = some (Obj.cells #[.string ⟨(g' j).toArray⟩, .pointer none, .pointer none] 61 (0, 0))) (hg : ∀ k, k < n → k ≠ j → g k = g' k) :
    RowT g' (w.setCell ⟨B, j, none⟩ (.pointer (some ⟨b, 0, none⟩))) 0 n B := by
  obtain ⟨cs, h1, h2⟩ := h.blk
  have hk : ∀ (c : Nat) (C : Array Value), w.heap[c]? = some (Obj.cells C 61 (0, 0)) → (w.setCell ⟨B, j, none⟩ (.pointer (some ⟨b, 0, none⟩))).heap[c]? = w.heap[c]? := fun c C e => lit_far _ (place_type e h1)
  refine ⟨⟨_, lit_set _ h1, by simp [h2]⟩, fun k hkn => ?_⟩
  by_cases e : k = j
  · subst e
    exact ⟨b, World.cell?_setCell_same _ _ _ ((lit_cell h1 k).trans (Array.getElem?_eq_getElem (by omega))), (hk _ _ hb).trans hb⟩
  · obtain ⟨c, h3, h4⟩ := h.at_ k hkn
    refine ⟨c, (World.cell?_setCell_other _ ⟨B, j, none⟩ ⟨B, k, none⟩ _ (fun e2 => e (by cases e2; rfl))).trans h3, ?_⟩
    have h5 := h4.keep hk
    unfold InT at h5 ⊢
    rw [← hg k hkn e]
    exact h5
theorem RowT.first {w : World} {n B b : Nat} {g : Nat → (List UInt8)} (h : w.heap[B]? = some (.cells (repL n n (.pointer (some ⟨b, 0, none⟩))).toArray 53 (0, 0))) {D : (List UInt8)} (hg : ∀ k, k < n → g k = D) (hb : w.heap[b]? = some (Obj.cells #[.string ⟨D.toArray⟩, .pointer none, .pointer none] 61 (0, 0))) : RowT g w 0 n B := by
  refine ⟨⟨_, h, by rw [List.size_toArray, repL_len (Nat.le_refl _)]; exact Nat.le_refl _⟩, fun k hk => ⟨b, ?_, ?_⟩⟩
  · rw [lit_cell h, List.getElem?_toArray]
    exact repL_get _ hk
  · unfold InT
    rw [hg k hk]
    exact hb
theorem turnB_in {d k : Nat} (hd : d ≤ 16) (hk : k < 2 ^ d) : turnB k (d : Int) = turn d 0 k := if_pos (by simp [standsB, hk]; omega)
theorem turnB_lt {d k : Nat} (hd : d ≤ 16) (hk : k < 2 ^ d) : turnB k (d : Int) < 2 ^ d := by rw [turnB_in hd hk]; exact turn_lt d k
theorem turnB_turnB {d k : Nat} (hd : d ≤ 16) (hk : k < 2 ^ d) : turnB (turnB k (d : Int)) (d : Int) = k := by rw [turnB_in hd (turnB_lt hd hk), turnB_in hd hk, turn_turn hk]
theorem gl_none (L : List (List UInt8)) (d k : Nat) : gl (L.take 0) d k = hashL noneT [] := by simp [gl]
theorem gl_same {L : List (List UInt8)} {d i : Nat} (hd : d ≤ 16) (hi : i < L.length) (hid : i < 2 ^ d) : gl (L.take (i + 1)) d (turnB i d) = hashL leafT [L[i]] := by
  unfold gl
  have h : turnB (turnB i (d : Int)) (d : Int) < (L.take (i + 1)).length := by rw [turnB_turnB hd hid, List.length_take]; omega
  rw [dif_pos h]
  congr 2
  rw [List.getElem_take]
  congr 1
  exact turnB_turnB hd hid
theorem gl_other {L : List (List UInt8)} {d i k : Nat} (hd : d ≤ 16) (hi : i < L.length) (hk : k < 2 ^ d) (hne : k ≠ turnB i d) : gl (L.take i) d k = gl (L.take (i + 1)) d k := by
  have hti : turnB k (d : Int) ≠ i := fun e => hne (by rw [← e, turnB_turnB hd hk])
  unfold gl
  by_cases h : turnB k (d : Int) < i
  · rw [dif_pos (by rw [List.length_take]; omega), dif_pos (by rw [List.length_take]; omega)]
    congr 2
    rw [List.getElem_take, List.getElem_take]
  · rw [dif_neg (by rw [List.length_take]; omega), dif_neg (by rw [List.length_take]; omega)]
set_option maxRecDepth 100000 in
set_option maxHeartbeats 1000000 in
theorem leaves_any (ao : Option Addr) (cap : Nat) (L : List (List UInt8)) (w : World) (hg : Glob w) (hs : Strs ao L w) (hL : L.length ≤ 65536) (hl : ∀ i (h : i < L.length), L[i].length ≤ 10000000) :
    Calls Tryd.prog 26 #[.slice ao L.length cap] w fun e w' => ∃ B, e = .returned (.slice (some ⟨B, 0, none⟩) (2 ^ dep L.length) (2 ^ dep L.length)) ∧ w.heap.size ≤ B ∧ RowT (gl L (dep L.length)) w' 0 (2 ^ dep L.length) B ∧ Below w.heap.size w w' := by
  have hsz := hg.size
  have hd := dep_le L.length hL
  have hnd := (dep_spec L.length hL).1
  have HD := Lib.hid (fun w => show Calls Tryd.prog 21 #[.int .i64 (L.length : Int)] w fun e w' => e = .returned (.int .i64 (dep L.length : Int)) ∧ w = w' from by
    have h := depth_any (L.length : Int) (by omega) w
    rwa [depthV, if_neg (by omega), Int.toNat_natCast] at h)
  generalize hde : dep L.length = d at *
  have HH := Lib.hid (fun wz (h : Below w.heap.size w wz) => hash_any noneT none 0 [] wz (hg.below hsz h) (.inl rfl) (by decide) (by decide))
  have hp16 : 2 ^ d ≤ 2 ^ 16 := Nat.pow_le_pow_right (by decide) hd
  have hp1 : 1 ≤ 2 ^ d := Nat.one_le_two_pow
  have hpw : (2 : Int) ^ d = ((2 ^ d : Nat) : Int) := by simp
  have hw1 : IntKind.i64.wrap ((2 : Int) ^ d) = (2 : Int) ^ d := by
    rw [hpw, IntKind.wrap_i64]
    omega
  have HR := Lib.hid (show ∀ sb p wz, wz.cell? ⟨sb, 0, none⟩ = some (.pointer (some ⟨p, 0, none⟩)) → Calls Tryd.prog 40 #[.slice (some ⟨sb, 0, none⟩) 1 1, .int .i64 ((2 : Int) ^ d)] wz fun e w' => ∃ B, e = .returned (.slice (some ⟨B, 0, none⟩) (2 ^ d) (2 ^ d)) ∧ wz.heap.size ≤ B ∧ w'.heap[B]? = some (.cells (repL (2 ^ d) (2 ^ d) (.pointer (some ⟨p, 0, none⟩))).toArray 53 (0, 0)) ∧ Below wz.heap.size wz w' from fun sb p wz h => by
    rw [hpw]
    exact repeat_any sb p (2 ^ d) wz ⟨hp1, by omega⟩ h)
  have H1 := Lib.hid (And.intro hg (And.intro hs (And.intro hl (And.intro hd (And.intro hnd hp16)))))
  clear hg hs hl hp16 hnd hpw
  go_enter Tryd.func26, Tryd.ntmps26
  go_upto_region 2 with (go_at_call 21; refine (HD.out _).mono ?_; rintro e w' ⟨rfl, rfl⟩)
  go_cut [4] from 17 (fun s4 wx => ∃ B p : Nat, s4 = .slice (some ⟨B, 0, none⟩) (2 ^ d) (2 ^ d) ∧ Hid (w.heap.size ≤ B ∧ Below w.heap.size w wx ∧ wx.heap[B]? = some (.cells (repL (2 ^ d) (2 ^ d) (.pointer (some ⟨p, 0, none⟩))).toArray 53 (0, 0)) ∧ wx.heap[p]? = some (.cells #[.string ⟨(hashL noneT []).toArray⟩, .pointer none, .pointer none] 61 (0, 0))))
  case first =>
    have hb0 := Below.refl w.heap.size w
    go_region_held3 (fun w' => Below w.heap.size w w')
      (first | (with_reducible assumption) | (with_reducible refine Below.drew ?_; with_reducible assumption) | (with_reducible refine below_alloc ?_ _; with_reducible assumption) | (with_reducible refine Below.drew (below_alloc ?_ _); with_reducible assumption))
      (first
        | (go_at_call 22; refine (HH.out _ (by with_reducible assumption)).mono ?_; rintro e w2 ⟨rfl, hq2⟩; have hb2 := below_next (by with_reducible assumption) hq2)
        | (go_at_call 40; refine (HR.out (w2.heap.size + 1) w2.heap.size _ (by simp)).mono ?_; rintro e w3 ⟨B, rfl, hB, hrow, hq3⟩; have hb3 := below_next (by with_reducible assumption) hq3))
    all_goals
      have hp2 : w3.heap[w2.heap.size]? = some (.cells #[.string ⟨(hashL noneT []).toArray⟩, .pointer none, .pointer none] 61 (0, 0)) := (hq3.block _ (by simp; omega)).trans (lit_old _ (heap_alloc_new w2 _))
      have hBw : w.heap.size ≤ B := by have := hb2.size; simp at hB; omega
      have HX := Lib.hid (And.intro hBw (And.intro hb3 (And.intro hrow hp2)))
      clear hp2 hBw hrow hB hq3 hq2 hb2
      go_wp2
      go_meet
      exact ⟨B, _, rfl, HX⟩
  case rest =>
  obtain ⟨B, p, rfl, HX⟩ := hcut
  have HR0 : Hid (RowT (gl (L.take 0) d) wc 0 (2 ^ d) B) := Lib.hid (RowT.first HX.out.2.2.1 (fun k _ => gl_none L d k) HX.out.2.2.2)
  have HLF := Lib.hid (fun e wz (h : Below w.heap.size w wz) he => tleaf_any e wz (H1.out.1.below hsz h) he)
  have HLE := Lib.hid (fun (i : Nat) (hi : i < 18446744073709551616) (w : World) => leaf_any i hi (d : Int) w)
  clear HD HH HR
  go_wp2
  go_loopw [5, 6, 19] (fun s5 s6 i wr => ∃ k : Nat, k ≤ L.length ∧ i = .int .i64 (k : Int) ∧ Hid (RowT (gl (L.take k) d) wr 0 (2 ^ d) B ∧ Below w.heap.size w wr))
    (fun _ _ i _ => L.length - (intOf i).toNat)
  case atStart => exact ⟨0, by omega, rfl, Lib.hid ⟨HR0.out, HX.out.2.1⟩⟩
  case round =>
    obtain ⟨k, hk, rfl, HK⟩ := hrel
    by_cases hlt : k < L.length
    · obtain ⟨b1, o1, rfl, hc1⟩ := (H1.out.2.1.below (Nat.le_refl _) HK.out.2).cell k hlt
      have k0 : (0 : Int) ≤ (k : Int) := by omega
      have k1 : (k : Int) < (L.length : Int) := by omega
      have hkd : k < 2 ^ d := Nat.lt_of_lt_of_le hlt H1.out.2.2.2.2.1
      have htl := turnB_lt H1.out.2.2.2.1 hkd
      have HLX := Lib.hid (HLF.out L[k] wr HK.out.2 (H1.out.2.2.1 k hlt))
      have HLY := Lib.hid (fun w => HLE.out k (by omega) w)
      have HG := Lib.hid (And.intro (gl_same (L := L) H1.out.2.2.2.1 hlt hkd) (fun j hj hne => gl_other (L := L) (k := j) H1.out.2.2.2.1 hlt hj hne))
      generalize L[k] = X at *
      generalize turnB k (d : Int) = j at *
      have j0 : (0 : Int) ≤ (j : Int) := by omega
      have j1 : (j : Int) < ((2 ^ d : Nat) : Int) := by omega
      have HJ := Lib.hid (And.intro htl hkd)
      rw [show ((2 ^ d : Nat) : Int) = (2 : Int) ^ d by simp] at j1
      clear htl hkd
      go_upto_region 6 with fail
      go_wp2_with (first
        | (go_at_call 24; refine (HLY.out _).mono ?_; rintro e w' ⟨rfl, rfl⟩)
        | (go_at_call 34; refine HLX.out.mono ?_; rintro e w2 ⟨b, rfl, hb, hbs, hb2⟩; have HR2 := HK.out.1.below hb2; have HRB := HR2.blk; obtain ⟨cs, hcs, hcn⟩ := HRB; have hcj := (lit_cell hcs j).trans (Array.getElem?_eq_getElem (by have := HJ.out.1; omega)); have hfj := lit_free hcs j))
      go_roundw
      case rel => exact ⟨k + 1, by omega, by go_num, Lib.hid ⟨HR2.put HJ.out.1 (by rw [HG.out.1]; exact hb) (fun q hq hne => HG.out.2 q hq hne), (below_next HK.out.2 hb2).setCell HX.out.1 _⟩⟩
      case measure => simp [intOf]; omega
    · have k1 : ¬ (k : Int) < (L.length : Int) := by omega
      have hke : L.take k = L := List.take_of_length_le (by omega)
      rw [hke] at HK
      go_wp2
      go_ret
      exact ⟨B, rfl, HX.out.1, HK.out.1, HK.out.2⟩
end Go.Proofs.YtjfhcckadibhgaaDoor
