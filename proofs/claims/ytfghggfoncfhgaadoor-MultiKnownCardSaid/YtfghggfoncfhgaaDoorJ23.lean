/- The law's root: from the elements at positions, and a proof. -/
import Derived.Test.YtfghggfoncfhgaaDoorJ22
import Derived.Test.YtfghggfoncfhgaaDoorJ21
namespace Go.Proofs.YtfghggfoncfhgaaDoor
open Go.RowKit Go.Sort

theorem dep_40 {n : Nat} (h : n ≤ 40) : dep n ≤ 6 := by
  rcases Nat.lt_or_ge 6 (dep n) with c | c
  · have := (dep_spec n (by omega)).2 6 c
    omega
  · exact c
theorem gl_leaf {L : List (List UInt8)} {p : Nat} (hd : dep L.length ≤ 16) (hp : p < L.length) (h2 : p < 2 ^ dep L.length) : gl L (dep L.length) (turnB p (dep L.length : Int)) = hashL leafT [L[p]] := gl_in (turnB_turnB hd h2) hp
abbrev LeS (p1 p2 : Addr) (v1 v2 : Value) (W wz : World) : Prop := wz.cell? p1 = some v1 ∧ wz.cell? p2 = some v2 ∧ Below W.heap.size W wz
theorem le_next {p1 p2 : Addr} {v1 v2 : Value} {W wz wa : World} (h : LeS p1 p2 v1 v2 W wz) (hb : Below wz.heap.size wz wa) : LeS p1 p2 v1 v2 W wa :=
  ⟨(World.cell?_of_block (hb.block _ (World.block_lt_of_cell? wz _ h.1))).trans h.1, (World.cell?_of_block (hb.block _ (World.block_lt_of_cell? wz _ h.2.1))).trans h.2.1, h.2.2.trans (hb.mono h.2.2.size)⟩
theorem le_alloc {p1 p2 : Addr} {v1 v2 : Value} {W wz : World} (h : LeS p1 p2 v1 v2 W wz) (o : Obj) : LeS p1 p2 v1 v2 W (wz.alloc o) := le_next h (by0 wz o)
theorem le_drew {p1 p2 : Addr} {v1 v2 : Value} {W wz : World} (h : LeS p1 p2 v1 v2 W wz) : LeS p1 p2 v1 v2 W wz.drew := le_next h (Below.refl _ _).drew
theorem Strs.tail {b o : Nat} {X : (List UInt8)} {L : List (List UInt8)} {w : World} (h : Strs (some ⟨b, o, none⟩) (X :: L) w) : Strs (some ⟨b, o + 1, none⟩) L w := by
  rcases h with h | ⟨b', o', e, h1, h2⟩
  · cases h
  · cases e
    refine .inr ⟨b, o + 1, rfl, h1, fun i hi => ?_⟩
    have := h2 (i + 1) (by simpa using hi)
    rw [List.getElem_cons_succ] at this
    rw [show o + 1 + i = o + (i + 1) by omega]
    exact this
theorem hash_at (wz : World) (A B : (List UInt8)) (sz : Nat) (hg : Glob wz) (hz : sz = wz.heap.size) (hA : A.length ≤ 32) (hB : B.length ≤ 32) : Calls Tryd.prog 16 #[.string ⟨#[110, 111, 100, 101]⟩, .slice (some ⟨sz, 0, none⟩) 2 2] (wz.alloc (.cells #[.string ⟨A.toArray⟩, .string ⟨B.toArray⟩] 9)) fun e w' => e = .returned (.string ⟨(hashL nodeT [A, B]).toArray⟩) ∧ Below wz.heap.size wz w' := by
  subst hz
  exact hash2_any nodeT A B wz hg (by decide) (by omega) (by omega)
theorem x_more {X K : List Nat} {t : Nat} (h : ∀ x, x ∈ X ↔ x < t ∧ x ∈ K) (ht : t ∈ K) : ∀ x, x ∈ X ++ [t] ↔ x < t + 1 ∧ x ∈ K := by
  intro x
  rw [List.mem_append, h x]
  constructor
  · rintro (⟨h1, h2⟩ | h)
    · exact ⟨by omega, h2⟩
    · simp at h; subst h; exact ⟨by omega, ht⟩
  · rintro ⟨h1, h2⟩
    by_cases e : x = t
    · exact .inr (by simp [e])
    · exact .inl ⟨by omega, h2⟩
theorem x_same {X K : List Nat} {t : Nat} (h : ∀ x, x ∈ X ↔ x < t ∧ x ∈ K) (ht : t ∉ K) : ∀ x, x ∈ X ↔ x < t + 1 ∧ x ∈ K := by
  intro x
  rw [h x]
  constructor
  · rintro ⟨h1, h2⟩; exact ⟨by omega, h2⟩
  · rintro ⟨h1, h2⟩
    by_cases e : x = t
    · subst e; exact absurd h2 ht
    · exact ⟨by omega, h2⟩
theorem restD_nil {g : Nat → (List UInt8)} {M : List (List Nat)} {i : Nat} (h : M.length ≤ i) : restD g M i 0 = [] := by
  rw [← restD_start, List.drop_eq_nil_of_le h]
  rfl
theorem root_in {LV : List Nat} {D : Nat} (h0 : LV ≠ []) (h : ∀ z ∈ LV, z < 2 ^ D) : 0 ∈ upTo LV D := by
  obtain ⟨k, hk⟩ := List.exists_mem_of_ne_nil LV h0
  exact mem_upTo.2 ⟨k, hk, Nat.div_eq_of_lt (h k hk)⟩
theorem below_row {w w1 w2 : World} {b : Nat} (h : Below w.heap.size w w1) (g : w1.grownBy w2 (some b)) (hb : w.heap.size ≤ b) : Below w.heap.size w w2 :=
  ⟨g.os.trans h.os, g.tape.trans h.tape, g.output.trans h.output, Nat.le_trans h.size g.size, fun j hj => (g.block j (by have := h.size; omega) (fun e => by cases e; omega)).trans (h.block j hj)⟩
theorem le_row {p1 p2 : Addr} {v1 v2 : Value} {W wz wa : World} {b : Nat} (h : LeS p1 p2 v1 v2 W wz) (hg : wz.grownBy wa (some b)) (hb : W.heap.size ≤ b) (h1 : p1.block < W.heap.size) (h2 : p2.block < W.heap.size) : LeS p1 p2 v1 v2 W wa :=
  ⟨(World.cell?_of_block (hg.block _ (World.block_lt_of_cell? wz _ h.1) (fun e => by cases e; omega))).trans h.1, (World.cell?_of_block (hg.block _ (World.block_lt_of_cell? wz _ h.2.1) (fun e => by cases e; omega))).trans h.2.1, below_row h.2.2 hg hb⟩
set_option maxRecDepth 100000 in
set_option maxHeartbeats 4000000 in
theorem root_any (L : List (List UInt8)) (P : List Nat) (ao bo po : Option Addr) (ca cb cp : Nat) (w : World) (hg : Glob w) (hP : Nums ao P w) (hL : Strs bo L w) (hR : Strs po (proofD L P) w) (hcp : (proofD L P).length ≤ cp) (hs : standsP P L.length = true) (h40 : L.length ≤ 40) (hl : ∀ i (h : i < L.length), L[i].length ≤ 10000000) :
    Calls Tryd.prog 13 #[.int .i64 (L.length : Int), .slice ao P.length ca, .slice bo L.length cb, .slice po (proofD L P).length cp] w fun e w' => e = .returned (.string ⟨(rootD L).toArray⟩) ∧ Below w.heap.size w w' := by
  have hpp := stands_parts hs
  have hd6 := dep_40 h40
  have hspec := (dep_spec L.length (by omega)).1
  have hpl := rising_len hpp.2.1 hpp.2.2
  have HD := Lib.hid (fun wz => depth_any (L.length : Int) (by omega) wz)
  rw [depthV, if_neg (by omega), Int.toNat_natCast] at HD
  have HLF := Lib.hid (fun p (hp : p < L.length) wz => leaf_any p (by omega) (dep L.length : Int) wz)
  have HG := Lib.hid hg
  have HP := Lib.hid hP
  have HL := Lib.hid hL
  have HLL := Lib.hid hl
  have HPP := Lib.hid hpp
  have HGL := Lib.hid (fun p (hp : p < L.length) => gl_leaf (L := L) (p := p) (by omega) hp (by omega))
  have HH := Lib.hid (fun B x wz (hg : Glob wz) (hst : Strs (some ⟨B, 0, none⟩) [x] wz) (hx : x.length ≤ 10000000) => hash_any leafT (some ⟨B, 0, none⟩) 1 [x] wz hg hst (by decide) (Nat.lt_of_lt_of_le (framed_short leafT [x] (by decide) (by simpa using hx) (by simp)) (by decide)))
  have HT0 := Lib.hid (TabS.made (dg (gl L (dep L.length)) 0) w)
  have hn1 : (P.length : Int) ≤ 40 := by omega
  have hmm := @run_makeMap Tryd.prog
  obtain ⟨R, hRe⟩ : ∃ R, R = proofD L P := ⟨_, rfl⟩
  have HR := Lib.hid hR
  rw [← hRe] at HR hcp ⊢
  have HRE := Lib.hid hRe
  have HDE := Lib.hid (And.intro hd6 (And.intro hspec hpl))
  clear hg hP hL hR hs hl hpp hspec hpl hRe
  obtain ⟨D, hDe⟩ : ∃ D, D = dep L.length := ⟨_, rfl⟩
  rw [← hDe] at HD HLF HGL HT0 HDE hd6
  have HDD := Lib.hid hDe
  obtain ⟨g, hge⟩ : ∃ g, g = gl L D := ⟨_, rfl⟩
  rw [← hge] at HGL HT0
  have HGE := Lib.hid hge
  clear hDe hge
  go_enter Tryd.func13, Tryd.ntmps13
  go_wp2_with (go_at_call 25; refine (HD.out _).mono ?_; rintro e w' ⟨rfl, rfl⟩)
  go_loopw [11] (fun vi wr => ∃ k : Nat, k ≤ P.length ∧ vi = .int .i64 (k : Int) ∧ Hid (TabS w.heap.size k (dg g 0) ((lvs P D).take k) wr) ∧ Hid (Below w.heap.size w wr)) (fun vi _ => P.length - (intOf vi).toNat)
  case atStart => exact ⟨0, Nat.zero_le _, rfl, HT0, Lib.hid (by0 w _)⟩
  case round =>
    obtain ⟨k, hk, rfl, HT, HB⟩ := hrel
    by_cases hlt : k < P.length
    · have k0 : (0 : Int) ≤ (k : Int) := by omega
      have k1 : (k : Int) < (P.length : Int) := by omega
      obtain ⟨b1, o1, rfl, hc1⟩ := nums_at HP.out k hlt
      obtain ⟨p, hp⟩ : ∃ p, p = P[k] := ⟨_, rfl⟩
      have hpL : p < L.length := by rw [hp]; exact HPP.out.2.2 _ (List.getElem_mem hlt)
      rw [← hp] at hc1
      obtain ⟨b2, o2, rfl, hc2⟩ := HL.out.cell p hpL
      have HLf := Lib.hid (fun wz => HLF.out p hpL wz)
      have p0 : (0 : Int) ≤ (p : Int) := by omega
      have p1 : (p : Int) < (L.length : Int) := by omega
      have hgl := HGL.out p hpL
      have hXl := HLL.out p hpL
      obtain ⟨X, hX⟩ : ∃ X, X = L[p] := ⟨_, rfl⟩
      obtain ⟨x, hx⟩ : ∃ x, x = turnB p (D : Int) := ⟨_, rfl⟩
      rw [← hX] at hc2 hgl hXl
      rw [← hx] at HLf hgl
      have hx64 : x < 18446744073709551616 := by
        rw [hx]
        have h1 := turnB_lt (d := D) (by omega) (show p < 2 ^ D from Nat.lt_of_lt_of_le hpL HDE.out.2.1)
        have h2 : 2 ^ D ≤ 2 ^ 16 := Nat.pow_le_pow_right (by decide) (by omega)
        omega
      have HTK := Lib.hid (show (lvs P D).take k ++ [x] = (lvs P D).take (k + 1) by
        rw [hx, hp, ← List.take_append_getElem (l := lvs P D) (by simpa using hlt)]
        simp)
      have HX := Lib.hid (And.intro hx64 (And.intro hgl hXl))
      have hb1 : b1 < w.heap.size := World.block_lt_of_cell? w _ hc1
      have hb2 : b2 < w.heap.size := World.block_lt_of_cell? w _ hc2
      have hs0 : LeS ⟨b1, o1 + k, none⟩ ⟨b2, o2 + p, none⟩ (.int .u64 (p : Int)) (.string ⟨X.toArray⟩) w wr := ⟨(HB.out.cell (p := ⟨b1, o1 + k, none⟩) hb1).trans hc1, (HB.out.cell (p := ⟨b2, o2 + p, none⟩) hb2).trans hc2, HB.out⟩
      have hs1 := le_drew hs0
      have HHX := Lib.hid (fun wz (h : LeS ⟨b1, o1 + k, none⟩ ⟨b2, o2 + p, none⟩ (.int .u64 (p : Int)) (.string ⟨X.toArray⟩) w wz) B (hst : Strs (some ⟨B, 0, none⟩) [X] wz) => HH.out B X wz (HG.out.below HG.out.size h.2.2) hst hXl)
      rw [← hgl] at HHX
      have HPUT := Lib.hid (fun wz (h : LeS ⟨b1, o1 + k, none⟩ ⟨b2, o2 + p, none⟩ (.int .u64 (p : Int)) (.string ⟨X.toArray⟩) w wz) (hy : Below wr.heap.size wr wz) => (HT.out.next hy).put (x := x) (by have := HDE.out.2.2; omega) hx64)
      rw [show dg g 0 x = g x from rfl] at HPUT
      have hbl1 : (⟨b1, o1 + k, none⟩ : Addr).block < w.heap.size := hb1
      have hbl2 : (⟨b2, o2 + p, none⟩ : Addr).block < w.heap.size := hb2
      clear hp hX hx hgl hXl hc1 hc2 hlt hx64 hb1 hb2
      go_wp2
      go_region_held3 (fun wz => LeS ⟨b1, o1 + k, none⟩ ⟨b2, o2 + p, none⟩ (.int .u64 (p : Int)) (.string ⟨X.toArray⟩) w wz)
        (first | (with_reducible assumption) | (with_reducible refine le_alloc ?_ _; with_reducible assumption) | (with_reducible refine le_drew ?_; with_reducible assumption) | (with_reducible refine le_drew (le_alloc ?_ _); with_reducible assumption))
        (first
          | (go_at_call 27; refine (HLf.out _).mono ?_; rintro e w' ⟨rfl, rfl⟩)
          | (go_at_call 16; refine (HHX.out _ (by with_reducible assumption) _ (by first | exact strs_new _ [X] _ rfl | exact strs_drew (strs_new _ [X] _ rfl))).mono ?_; rintro e w2 ⟨rfl, hb2⟩; have hs2 := le_next (by with_reducible assumption) hb2; obtain ⟨w3, hrun, ht3, hg3⟩ := HPUT.out w2 hs2 (by first | exact below_next (by0 wr _).drew hb2 | exact below_next (by0 wr _) hb2); have hs3 := le_row hs2 hg3 (Nat.le_refl _) hbl1 hbl2))
      all_goals
        rw [HTK.out] at ht3
        have HT3 := Lib.hid ht3
        have HB3 := Lib.hid hs3.2.2
        clear ht3 hg3 hs3 hs2 hb2 hrun hs0 hs1
        go_wp2
        go_roundw
        case rel => exact ⟨k + 1, by omega, by go_num, HT3, HB3⟩
        case measure => simp [intOf] <;> omega
    · have k1 : ¬ (k : Int) < (P.length : Int) := by omega
      have HT0 := Lib.hid (show TabS w.heap.size 40 (dg g 0) (upTo (lvs P D) 0) wr by
        have := HT.out
        rw [List.take_of_length_le (by simp; omega), ← upTo_zero (lvs P D)] at this
        exact this.mono (by omega))
      have hR0 : R = restD g (needM (lvs P D) D) 0 0 := by
        rw [← restD_start, HRE.out, proofD, ← HDD.out, ← HGE.out]
        rfl
      have HR1 := Lib.hid (show Strs po (restD g (needM (lvs P D) D) 0 0) w by rw [← hR0]; exact HR.out)
      have hcp0 : (restD g (needM (lvs P D) D) 0 0).length ≤ cp := by rw [← hR0]; exact hcp
      rw [show R.length = (restD g (needM (lvs P D) D) 0 0).length from congrArg List.length hR0]
      have HM := Lib.hid (needs_M (L := lvs P D) (d := D) fun z hz => by
        obtain ⟨y, hy, rfl⟩ := List.mem_map.1 hz
        exact turnB_lt (by omega) (Nat.lt_of_lt_of_le (HPP.out.2.2 y hy) HDE.out.2.1))
      have HLV := Lib.hid (show ∀ z ∈ lvs P D, z < 2 ^ D from fun z hz => by
        obtain ⟨y, hy, rfl⟩ := List.mem_map.1 hz
        exact turnB_lt (by omega) (Nat.lt_of_lt_of_le (HPP.out.2.2 y hy) HDE.out.2.1))
      have HML := Lib.hid (needM_len (lvs P D) D)
      have HDL := Lib.hid (fun l k => dg_len (g := g) (fun k => by rw [HGE.out]; exact gl_len L D k) l k)
      generalize needM (lvs P D) D = M at *
      clear hR0 hcp HT HLF HH HGL HLL HR HRE k1 hn1
      go_wp2
      go_loopw [3, 10, 12] (fun v3 v10 v12 wr => ∃ (i b c : Nat) (po : Option Addr) (cp : Nat), v3 = .slice po (restD g M i 0).length cp ∧ (restD g M i 0).length ≤ cp ∧ v10 = .map (some b) ∧ v12 = .int .i64 (i : Int) ∧ i ≤ D ∧ c ≤ 100 ∧ Hid (TabS b c (dg g i) (upTo (lvs P D) i) wr) ∧ Hid (Strs po (restD g M i 0) w) ∧ Hid (Below w.heap.size w wr)) (fun _ _ v12 _ => D - (intOf v12).toNat)
      case atStart => exact ⟨0, w.heap.size, 40, po, cp, rfl, hcp0, rfl, rfl, Nat.zero_le _, by omega, HT0, HR1, HB⟩
      case round =>
        obtain ⟨i, b, c, po2, cp2, rfl, hcp2, rfl, rfl, hi, hc, HT, HR, HB2⟩ := hrel
        by_cases hiD : i < D
        · have hl : (i : Int) < (D : Int) := by omega
          have i0 : (0 : Int) ≤ (i : Int) := by omega
          have HOm := Lib.hid (TabS.made (dg g (i + 1)) wr)
          have HTa := Lib.hid (HT.out.next (by0 wr (.map #[] 0)))
          have HBa := Lib.hid (below_alloc HB2.out (.map #[] 0))
          have HRa := Lib.hid HR.out
          have HWZ := Lib.hid HB2.out.size
          have hbm := HT.out.lt
          obtain ⟨Q, hQ⟩ : ∃ Q, Q = 2 ^ (D - i - 1) := ⟨_, rfl⟩
          have hQ2 : 2 ^ (D - i) = 2 * Q := by rw [hQ, show D - i = D - i - 1 + 1 by omega, Nat.pow_succ, Nat.mul_comm]; simp
          have hQ7 : 2 ^ (D - i) ≤ 2 ^ 6 := Nat.pow_le_pow_right (by decide) (by omega)
          have hQb : Q ≤ 32 := by omega
          have hw : IntKind.u64.wrap ((2 : Int) ^ (D - i)) = 2 * (Q : Int) := by
            rw [show ((2 : Int) ^ (D - i)) = ((2 ^ (D - i) : Nat) : Int) by simp, hQ2, IntKind.wrap_u64]
            omega
          have HQ2 := Lib.hid hQ2
          obtain ⟨N, hNe⟩ : ∃ N, M[i]? = some N := ⟨_, List.getElem?_eq_getElem (by rw [HML.out]; exact hiD)⟩
          have HNd := Lib.hid (HM.out.2 i N hNe)
          have HNe := Lib.hid hNe
          clear hQ hQ7 hQ2 hNe HT HR HB2 HT0 HR1 HB
          go_wp2
          generalize wr = wa at *
          go_loopw [3, 14] (fun v3 v14 wr3 => ∃ (t c2 cp : Nat) (po : Option Addr) (X : List Nat), v3 = .slice po (restD g M i t).length cp ∧ (restD g M i t).length ≤ cp ∧ v14 = .int .u64 ((2 * t : Nat) : Int) ∧ t ≤ Q ∧ c2 ≤ t ∧ Hid (TabS b c (dg g i) (upTo (lvs P D) i) wr3) ∧ Hid (TabS wa.heap.size c2 (dg g (i + 1)) X wr3) ∧ Hid (Strs po (restD g M i t) w) ∧ Hid (Below w.heap.size w wr3) ∧ Hid (∀ x, x ∈ X ↔ x < t ∧ x ∈ upTo (lvs P D) (i + 1))) (fun _ v14 _ => 256 - (intOf v14).toNat)
          case atStart => exact ⟨0, 0, cp2, po2, [], rfl, hcp2, rfl, Nat.zero_le _, Nat.zero_le _, HTa, HOm, HRa, HBa, Lib.hid (by simp)⟩
          case round =>
            obtain ⟨t, c2, cp3, po3, X, rfl, hcp3, rfl, ht, hc2, HT, HX, HR, HB, HXE⟩ := hrel
            by_cases htQ : t < Q
            · have hlt : 2 * (t : Int) < 2 * (Q : Int) := by omega
              have hr1 := HT.out.look_ok (k := 2 * t) (by omega)
              by_cases h1 : 2 * t ∈ upTo (lvs P D) i
              · have hK1 : t ∈ upTo (lvs P D) (i + 1) := mem_upTo_succ.2 ⟨2 * t, h1, by omega⟩
                have HXn := Lib.hid (x_more HXE.out hK1)
                by_cases h2 : 2 * t + 1 ∈ upTo (lvs P D) i
                · have hre := restD_none (g := g) HNe.out HNd.out.1 (t := t) (fun h => ((HNd.out.2 _).1 h).2 h1) (fun h => ((HNd.out.2 _).1 h).2 h2)
                  have HRn := Lib.hid (show Strs po3 (restD g M i (t + 1)) w by rw [← hre]; exact HR.out)
                  rw [hre] at hcp3 ⊢
                  rw [if_pos h1, decide_eq_true h1] at hr1
                  have hdg : dg g (i + 1) t = hashL nodeT [dg g i (2 * t), dg g i (2 * t + 1)] := rfl
                  have hA32 := HDL.out i (2 * t)
                  have hB32 := HDL.out i (2 * t + 1)
                  generalize dg g i (2 * t) = A at *
                  have hr2 := (HT.out.next (by0 wr (.cells #[.string ⟨A.toArray⟩] 62))).look_ok (k := 2 * t + 1) (by omega)
                  rw [if_pos h2, decide_eq_true h2] at hr2
                  generalize dg g i (2 * t + 1) = B at *
                  rw [show ((2 * t : Nat) : Int) = 2 * (t : Int) by omega] at hr1
                  rw [show ((2 * t + 1 : Nat) : Int) = 2 * (t : Int) + 1 by omega] at hr2
                  have hbz : Below wr.heap.size wr ((wr.alloc (.cells #[.string ⟨A.toArray⟩] 62)).alloc (.cells #[.string ⟨B.toArray⟩] 62)) := below_alloc (by0 wr _) _
                  have HN := Lib.hid (hash_at _ A B (wr.heap.size + 1 + 1) (HG.out.below HG.out.size (HB.out.trans (hbz.mono HB.out.size))) (by simp) hA32 hB32)
                  have HPUT := Lib.hid (fun wz (h : Below wr.heap.size wr wz) => (HX.out.next h).put (x := t) (by omega) (by omega))
                  rw [hdg] at HPUT
                  have HBZ := Lib.hid hbz
                  clear h1 h2 hbz hdg hA32 hB32 hK1
                  generalize hashL nodeT [A, B] = C at *
                  go_wp2_with (go_at_call 16; with_reducible refine HN.out.mono ?_; rintro e w2 ⟨rfl, hb2⟩; have hb3 := HBZ.out.trans (hb2.mono HBZ.out.size); obtain ⟨w3, hrun, ht3, hg3⟩ := HPUT.out w2 hb3)
                  have HTn := Lib.hid ((HT.out.next hb3).kept hg3 (fun e => by cases e; omega))
                  have HX3 := Lib.hid ht3
                  have HB3 := Lib.hid (below_row (HB.out.trans (hb3.mono HB.out.size)) hg3 HWZ.out)
                  clear ht3 hg3 hrun hb3 hb2
                  go_wp2
                  go_roundw
                  case rel => exact ⟨t + 1, c2 + 1, cp3, po3, X ++ [t], rfl, hcp3, by go_num, by omega, by omega, HTn, HX3, HRn, HB3, HXn⟩
                  case measure => simp [intOf] <;> omega
                · have hs1 : sib (2 * t + 1) = 2 * t := by unfold sib; split <;> omega
                  have hre := restD_one (g := g) HNe.out HNd.out.1 (t := t) (x := 2 * t + 1) (by omega) ((HNd.out.2 _).2 ⟨by rw [hs1]; exact h1, h2⟩) (by rw [hs1]; exact fun h => ((HNd.out.2 _).1 h).2 h1)
                  have HR' := HR.out
                  rw [hre] at HR' hcp3 ⊢
                  rw [if_pos h1, decide_eq_true h1] at hr1
                  have hdg : dg g (i + 1) t = hashL nodeT [dg g i (2 * t), dg g i (2 * t + 1)] := rfl
                  have hA32 := HDL.out i (2 * t)
                  have hB32 := HDL.out i (2 * t + 1)
                  generalize dg g i (2 * t) = A at *
                  have hr2 := (HT.out.next (by0 wr (.cells #[.string ⟨A.toArray⟩] 62))).look_ok (k := 2 * t + 1) (by omega)
                  rw [if_neg h2, decide_eq_false h2] at hr2
                  generalize dg g i (2 * t + 1) = B at *
                  rw [show ((2 * t : Nat) : Int) = 2 * (t : Int) by omega] at hr1
                  rw [show ((2 * t + 1 : Nat) : Int) = 2 * (t : Int) + 1 by omega] at hr2
                  obtain ⟨bp, op, rfl, hpc⟩ := HR'.cell 0 (by simp)
                  rw [List.getElem_cons_zero, Nat.add_zero] at hpc
                  have hbp : bp < w.heap.size := World.block_lt_of_cell? w _ hpc
                  obtain ⟨n, hn⟩ : ∃ n, n = (restD g M i (t + 1)).length := ⟨_, rfl⟩
                  rw [List.length_cons, ← hn] at hcp3 ⊢
                  have hwz := HWZ.out
                  have hwr := HB.out.size
                  have hbz : Below wr.heap.size wr ((wr.alloc (.cells #[.string ⟨A.toArray⟩] 62)).alloc (.cells #[.string ⟨#[]⟩] 62)) := below_alloc (by0 wr _) _
                  have hpc2 := (hbz.cell (p := ⟨bp, op, none⟩) (Nat.lt_of_lt_of_le hbp hwr)).trans ((HB.out.cell (p := ⟨bp, op, none⟩) hbp).trans hpc)
                  have n0 : ((n : Int) + 1 == 0) = false := by rw [beq_eq_false_iff_ne]; omega
                  have n1 : (0 : Int) < (n : Int) + 1 := by omega
                  have n2 : (1 : Int) ≤ (n : Int) + 1 := by omega
                  have n3 : (n : Int) + 1 ≤ (cp3 : Int) := by omega
                  have HRn := Lib.hid (show Strs (if cp3 = 1 then some ⟨bp, op, none⟩ else some ⟨bp, op + 1, none⟩) (restD g M i (t + 1)) w by
                    by_cases hq : cp3 = 1
                    · exact .inl (List.length_eq_zero_iff.1 (by omega))
                    · rw [if_neg hq]; exact HR'.tail)
                  have hbz2 : Below wr.heap.size wr ((wr.alloc (.cells #[.string ⟨A.toArray⟩] 62)).alloc (.cells #[.string ⟨B.toArray⟩] 62)) := below_alloc (by0 wr _) _
                  have HN := Lib.hid (hash_at _ A B (wr.heap.size + 1 + 1) (HG.out.below HG.out.size (HB.out.trans (hbz2.mono HB.out.size))) (by simp) hA32 hB32)
                  have HPUT := Lib.hid (fun wz (h : Below wr.heap.size wr wz) => (HX.out.next h).put (x := t) (by omega) (by omega))
                  rw [hdg] at HPUT
                  have HBZ := Lib.hid hbz2
                  have HNN := Lib.hid hn
                  clear hpc h1 h2 hbz hbz2 hdg hA32 hB32 hK1 hn HR' hwz hwr hbp hre hs1
                  generalize hashL nodeT [A, B] = C at *
                  go_wp2_with (go_at_call 16; with_reducible refine HN.out.mono ?_; rintro e w2 ⟨rfl, hb2⟩; have hb3 := HBZ.out.trans (hb2.mono HBZ.out.size); obtain ⟨w3, hrun, ht3, hg3⟩ := HPUT.out w2 hb3)
                  have HTn := Lib.hid ((HT.out.next hb3).kept hg3 (fun e => by cases e; omega))
                  have HX3 := Lib.hid ht3
                  have HB3 := Lib.hid (below_row (HB.out.trans (hb3.mono HB.out.size)) hg3 HWZ.out)
                  clear ht3 hg3 hrun hb3 hb2
                  go_wp2
                  go_roundw
                  case rel => exact ⟨t + 1, c2 + 1, cp3 - 1, _, X ++ [t], by rw [HNN.out], by rw [← HNN.out]; omega, by go_num, by omega, by omega, HTn, HX3, HRn, HB3, HXn⟩
                  case measure => simp [intOf] <;> omega
              · by_cases h2 : 2 * t + 1 ∈ upTo (lvs P D) i
                · have hK1 : t ∈ upTo (lvs P D) (i + 1) := mem_upTo_succ.2 ⟨2 * t + 1, h2, by omega⟩
                  have HXn := Lib.hid (x_more HXE.out hK1)
                  have hs1 : sib (2 * t) = 2 * t + 1 := by unfold sib; split <;> omega
                  have hre := restD_one (g := g) HNe.out HNd.out.1 (t := t) (x := 2 * t) (by omega) ((HNd.out.2 _).2 ⟨by rw [hs1]; exact h2, h1⟩) (by rw [hs1]; exact fun h => ((HNd.out.2 _).1 h).2 h2)
                  have HR' := HR.out
                  rw [hre] at HR' hcp3 ⊢
                  rw [if_neg h1, decide_eq_false h1] at hr1
                  have hdg : dg g (i + 1) t = hashL nodeT [dg g i (2 * t), dg g i (2 * t + 1)] := rfl
                  have hA32 := HDL.out i (2 * t)
                  have hB32 := HDL.out i (2 * t + 1)
                  generalize dg g i (2 * t) = A at *
                  have hr2 := (HT.out.next (by0 wr (.cells #[.string ⟨#[]⟩] 62))).look_ok (k := 2 * t + 1) (by omega)
                  rw [if_pos h2, decide_eq_true h2] at hr2
                  generalize dg g i (2 * t + 1) = B at *
                  rw [show ((2 * t : Nat) : Int) = 2 * (t : Int) by omega] at hr1
                  rw [show ((2 * t + 1 : Nat) : Int) = 2 * (t : Int) + 1 by omega] at hr2
                  obtain ⟨bp, op, rfl, hpc⟩ := HR'.cell 0 (by simp)
                  rw [List.getElem_cons_zero, Nat.add_zero] at hpc
                  have hbp : bp < w.heap.size := World.block_lt_of_cell? w _ hpc
                  obtain ⟨n, hn⟩ : ∃ n, n = (restD g M i (t + 1)).length := ⟨_, rfl⟩
                  rw [List.length_cons, ← hn] at hcp3 ⊢
                  have hwz := HWZ.out
                  have hwr := HB.out.size
                  have hbz : Below wr.heap.size wr ((wr.alloc (.cells #[.string ⟨#[]⟩] 62)).alloc (.cells #[.string ⟨B.toArray⟩] 62)) := below_alloc (by0 wr _) _
                  have hpc2 := (hbz.cell (p := ⟨bp, op, none⟩) (Nat.lt_of_lt_of_le hbp hwr)).trans ((HB.out.cell (p := ⟨bp, op, none⟩) hbp).trans hpc)
                  have n0 : ((n : Int) + 1 == 0) = false := by rw [beq_eq_false_iff_ne]; omega
                  have n1 : (0 : Int) < (n : Int) + 1 := by omega
                  have n2 : (1 : Int) ≤ (n : Int) + 1 := by omega
                  have n3 : (n : Int) + 1 ≤ (cp3 : Int) := by omega
                  have HRn := Lib.hid (show Strs (if cp3 = 1 then some ⟨bp, op, none⟩ else some ⟨bp, op + 1, none⟩) (restD g M i (t + 1)) w by
                    by_cases hq : cp3 = 1
                    · exact .inl (List.length_eq_zero_iff.1 (by omega))
                    · rw [if_neg hq]; exact HR'.tail)
                  have hbz2 : Below wr.heap.size wr ((wr.alloc (.cells #[.string ⟨A.toArray⟩] 62)).alloc (.cells #[.string ⟨B.toArray⟩] 62)) := below_alloc (by0 wr _) _
                  have HN := Lib.hid (hash_at _ A B (wr.heap.size + 1 + 1) (HG.out.below HG.out.size (HB.out.trans (hbz2.mono HB.out.size))) (by simp) hA32 hB32)
                  have HPUT := Lib.hid (fun wz (h : Below wr.heap.size wr wz) => (HX.out.next h).put (x := t) (by omega) (by omega))
                  rw [hdg] at HPUT
                  have HBZ := Lib.hid hbz2
                  have HNN := Lib.hid hn
                  clear hpc h1 h2 hbz hbz2 hdg hA32 hB32 hK1 hn HR' hwz hwr hbp hre hs1
                  generalize hashL nodeT [A, B] = C at *
                  go_wp2_with (go_at_call 16; with_reducible refine HN.out.mono ?_; rintro e w2 ⟨rfl, hb2⟩; have hb3 := HBZ.out.trans (hb2.mono HBZ.out.size); obtain ⟨w3, hrun, ht3, hg3⟩ := HPUT.out w2 hb3)
                  have HTn := Lib.hid ((HT.out.next hb3).kept hg3 (fun e => by cases e; omega))
                  have HX3 := Lib.hid ht3
                  have HB3 := Lib.hid (below_row (HB.out.trans (hb3.mono HB.out.size)) hg3 HWZ.out)
                  clear ht3 hg3 hrun hb3 hb2
                  go_wp2
                  go_roundw
                  case rel => exact ⟨t + 1, c2 + 1, cp3 - 1, _, X ++ [t], by rw [HNN.out], by rw [← HNN.out]; omega, by go_num, by omega, by omega, HTn, HX3, HRn, HB3, HXn⟩
                  case measure => simp [intOf] <;> omega
                · have hs1 : sib (2 * t) = 2 * t + 1 := by unfold sib; split <;> omega
                  have hs2 : sib (2 * t + 1) = 2 * t := by unfold sib; split <;> omega
                  have hK1 : t ∉ upTo (lvs P D) (i + 1) := fun h => by
                    obtain ⟨z, hz, hzt⟩ := mem_upTo_succ.1 h
                    have : z = 2 * t ∨ z = 2 * t + 1 := by omega
                    rcases this with rfl | rfl
                    · exact h1 hz
                    · exact h2 hz
                  have HXn := Lib.hid (x_same HXE.out hK1)
                  have hre := restD_none (g := g) HNe.out HNd.out.1 (t := t) (fun h => by have := ((HNd.out.2 _).1 h).1; rw [hs1] at this; exact h2 this) (fun h => by have := ((HNd.out.2 _).1 h).1; rw [hs2] at this; exact h1 this)
                  have HRn := Lib.hid (show Strs po3 (restD g M i (t + 1)) w by rw [← hre]; exact HR.out)
                  rw [hre] at hcp3 ⊢
                  rw [if_neg h1, decide_eq_false h1] at hr1
                  have hr2 := (HT.out.next (by0 wr (.cells #[.string ⟨#[]⟩] 62))).look_ok (k := 2 * t + 1) (by omega)
                  rw [if_neg h2, decide_eq_false h2] at hr2
                  rw [show ((2 * t : Nat) : Int) = 2 * (t : Int) by omega] at hr1
                  rw [show ((2 * t + 1 : Nat) : Int) = 2 * (t : Int) + 1 by omega] at hr2
                  have hbz : Below wr.heap.size wr ((wr.alloc (.cells #[.string ⟨#[]⟩] 62)).alloc (.cells #[.string ⟨#[]⟩] 62)) := below_alloc (by0 wr _) _
                  have HTn := Lib.hid (HT.out.next hbz)
                  have HX3 := Lib.hid (HX.out.next hbz)
                  have HB3 := Lib.hid (HB.out.trans (hbz.mono HB.out.size))
                  clear h1 h2 hbz hK1 hre hs1 hs2
                  go_wp2
                  go_roundw
                  case rel => exact ⟨t + 1, c2, cp3, po3, X, rfl, hcp3, by go_num, by omega, by omega, HTn, HX3, HRn, HB3, HXn⟩
                  case measure => simp [intOf] <;> omega
            · have hlt : ¬ 2 * (t : Int) < 2 * (Q : Int) := by omega
              have hQ2 := HQ2.out
              have hQ3 : 2 ^ (D - (i + 1)) = Q := by
                have : 2 ^ (D - i) = 2 * 2 ^ (D - (i + 1)) := by rw [show D - i = D - (i + 1) + 1 by omega, Nat.pow_succ, Nat.mul_comm]
                omega
              have htq : t = Q := by omega
              have HTn := Lib.hid (show TabS wa.heap.size c2 (dg g (i + 1)) (upTo (lvs P D) (i + 1)) wr from HX.out.of (fun x => by
                rw [HXE.out]
                refine ⟨fun h => h.2, fun h => ⟨?_, h⟩⟩
                have := upTo_lt HLV.out (show i + 1 ≤ D by omega) h
                omega) (fun _ _ => rfl))
              have hre : restD g M i t = restD g M (i + 1) 0 := restD_end g M i t fun N' hN' x hx => by
                rw [HNe.out] at hN'
                cases hN'
                have g1 := ((HNd.out.2 x).1 hx).1
                have g2 := upTo_lt HLV.out (show i ≤ D by omega) g1
                have g3 := sib_lt (k := sib x) (d := D - i - 1) (by rwa [show D - i - 1 + 1 = D - i by omega])
                rw [sib_sib, show D - i - 1 + 1 = D - i by omega] at g3
                omega
              have HRn := Lib.hid (show Strs po3 (restD g M (i + 1) 0) w by rw [← hre]; exact HR.out)
              rw [hre] at hcp3 ⊢
              clear hQ2 hQ3 htq hre
              go_wp2
              go_roundw
              case rel => exact ⟨i + 1, wa.heap.size, c2, po3, cp3, rfl, hcp3, rfl, by go_num, by omega, by omega, HTn, HRn, HB⟩
              case measure => simp [intOf] <;> omega
        · have hl : ¬ (i : Int) < (D : Int) := by omega
          have hie : i = D := by omega
          have hnil : restD g M i 0 = [] := restD_nil (by rw [HML.out]; omega)
          rw [hnil, List.length_nil]
          have hk0 := HT.out.look (k := 0) (by omega)
          rw [if_pos (by rw [hie]; exact root_in (fun e => HPP.out.1 (List.map_eq_nil_iff.1 e)) HLV.out), show ((0 : Nat) : Int) = 0 from rfl] at hk0
          have HF := Lib.hid (show dg g i 0 = rootD L by rw [rootD, ← HDD.out, ← HGE.out, hie])
          generalize dg g i 0 = Z at *
          have hfd : ∀ w : World, (Instr.field 62 (.agg #[.string ⟨Z.toArray⟩]) 0).run Tryd.prog w = .ok (.string ⟨Z.toArray⟩) w := fun _ => by kernel_rfl
          clear hie hnil
          go_wp2
          go_ret
          exact ⟨by rw [HF.out]; trivial, HB2.out⟩
end Go.Proofs.YtfghggfoncfhgaaDoor
