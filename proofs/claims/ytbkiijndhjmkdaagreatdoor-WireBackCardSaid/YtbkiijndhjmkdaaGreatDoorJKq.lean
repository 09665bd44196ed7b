/- The law's WireCuts: its walk. -/
import Derived.Test.YtbkiijndhjmkdaaGreatDoorJ35
namespace Go.Proofs.YtbkiijndhjmkdaaGreatDoor
open Go.RowKit

theorem text_cutM (X : (List UInt8)) (N : Nat) : (∃ m : Nat, min (X.length : Int) (N : Int) = (m : Int) ∧ m ≤ X.length ∧ (⟨X.toArray⟩ : ByteArray).extract 0 m = ⟨(X.take N).toArray⟩) := by
  refine ⟨min X.length N, by omega, by omega, ?_⟩
  rw [extract_list, List.drop_zero]
  congr 2
  by_cases h : X.length ≤ N
  · rw [Nat.min_eq_left h, List.take_of_length_le (Nat.le_refl _), List.take_of_length_le h]
  · rw [Nat.min_eq_right (by omega)]
theorem Nums.nx {ao : Option Addr} {L : List Nat} {w w' : World} (h : Nums ao L w) (hb : Below w.heap.size w w') : Nums ao L w' := by
  rcases h with h | ⟨b, off, h1, h2, h3⟩
  · exact .inl h
  · exact .inr ⟨b, off, h1, Nat.lt_of_lt_of_le h2 hb.size, fun i hi => (World.cell?_of_block (a := ⟨b, off + i, none⟩) (hb.block b h2)).trans (h3 i hi)⟩
theorem Revs.nx {ao : Option Addr} {L : List RevE} {w w' : World} (h : Revs ao L w) (hb : Below w.heap.size w w') : Revs ao L w' := by
  rcases h with h | ⟨b, off, h1, h2, h3⟩
  · exact .inl h
  · exact .inr ⟨b, off, h1, Nat.lt_of_lt_of_le h2 hb.size, fun i x hx j hj => (World.cell?_of_block (a := ⟨b, off + (i * 11 + j), none⟩) (hb.block b h2)).trans (h3 i x hx j hj)⟩
theorem CertM.nx {c : CertE} {w w' : World} (h : CertM c w) (hb : Below w.heap.size w w') : CertM c w' :=
  ⟨h.r.nx hb, fun x hx => ⟨(h.x x hx).1.below (Nat.le_refl _) hb, (h.x x hx).2.below (Nat.le_refl _) hb⟩, h.co.nx hb, h.s.below (Nat.le_refl _) hb, h.p.below (Nat.le_refl _) hb⟩
set_option maxRecDepth 100000 in
set_option maxHeartbeats 4000000 in
theorem cuts_any (x : CertE) (at_ : Nat) (S : (List UInt8)) (w : World) (hg : GlobW w) (hgl : 4 ≤ w.heap.size) (hp : CertP x.r) (hM : CertM x w) (hs : CertS x) (hat : at_ < 65536) (hS : S.length ≤ maxLen) :
    Calls Tryz.prog 9 #[certV x, .int .u16 (at_ : Int), .string ⟨S.toArray⟩] w fun e w' => e = .returned (.bool true) ∧ Below w.heap.size w w' := by
  have HWO := Lib.hid (fun wz (h : Wk w wz) => worksw_any wz h.g h.gl)
  have HC := Lib.hid (show ∀ wz, Wk w wz → Calls Tryz.prog 24 #[certV x] wz (fun e w' => ∃ y : CertE, e = .returned (certV y) ∧ Hid (y.r = certTo x.r ∧ CertM y w') ∧ Below wz.heap.size wz w') from fun wz h => by
    refine (cutcert_any x wz (hM.nx h.o) hs).mono ?_
    rintro e w' ⟨⟨y, hy, rfl, hm⟩, hb⟩
    exact ⟨y, rfl, Lib.hid ⟨hy, hm⟩, hb⟩)
  have HA := Lib.hid (show ∀ (y : CertE) wz, Wk w wz → Hid (y.r = certTo x.r ∧ CertM y wz) → Calls Tryz.prog 25 #[certV y] wz (fun e w' => e = .returned (.tuple #[.string ⟨(layCertP (certTo x.r)).1.toArray⟩, .int .i64 (layCertP (certTo x.r)).2]) ∧ Below wz.heap.size wz w') from fun y wz h hy => by
    have h1 := wcert_any y wz h.g (certTo_in hp hy.out.1) hy.out.2
    rw [hy.out.1] at h1
    exact h1)
  have hal := certTo_len x.r
  obtain ⟨m, hm1, hm2, hm3⟩ := (show ∃ m : Nat, min (S.length : Int) 100 = (m : Int) ∧ m ≤ S.length ∧ (⟨S.toArray⟩ : ByteArray).extract 0 m = ⟨(S.take 100).toArray⟩ from text_cutM S 100)
  have Hm3 := Lib.hid hm3
  have hml : (S.take 100).length ≤ 100 := by rw [List.length_take]; omega
  have HK : Hid (Wk w w) := Lib.hid ⟨hg, hgl, Below.refl _ _⟩
  have m0 : (0 : Int) ≤ (m : Int) := by omega
  have m1 : (m : Int) ≤ (S.length : Int) := by omega
  have m2 : (S.length : Int) ≤ 9223372036854775807 := by unfold maxLen at hS; omega
  have HN := Lib.hid (heap_alloc_new w (.cells (certQ x).toArray 60))
  have HK1 := Lib.hid (HK.out.next (by0 w (.cells (certQ x).toArray 60)))
  have hcut := fun h => cert_cut (certTo_p hp) h
  have hbk := fun h => rcert_back (certTo_p hp) h
  have hsh := cert_shape (certTo x.r)
  generalize hA0 : (layCertP (certTo x.r)).1 = A at *
  generalize hc : (layCertP (certTo x.r)).2 = c at *
  have hsh2 : (c = 0 ∧ A ≠ []) ∨ (A = [] ∧ c = 2) := by
    rcases hsh with ⟨h1, h2⟩ | h1
    · exact .inl ⟨h1, h2⟩
    · rw [h1] at hA0 hc
      exact .inr ⟨hA0.symm, hc.symm⟩
  clear hsh hg hgl hM hs hS hm2 hm3 hp hA0
  rcases hsh2 with ⟨rfl, hne⟩ | ⟨rfl, rfl⟩
  · have hl0 : 0 < A.length := List.length_pos_iff.2 hne
    obtain ⟨k, hk⟩ : ∃ k, at_ % A.length = k := ⟨_, rfl⟩
    have hkl : k < A.length := by rw [← hk]; exact Nat.mod_lt _ hl0
    have hk1 : (at_ : Int).tmod (A.length : Int) = (k : Int) := by rw [← hk]; rfl
    have hk2 : (at_ : Int) % (A.length : Int) = (k : Int) := by rw [← hk]; rfl
    have hk3 : (⟨A.toArray⟩ : ByteArray).extract 0 k = ⟨(A.take k).toArray⟩ := by rw [extract_list, List.drop_zero]
    have HE3 := Lib.hid hk3
    generalize S.take 100 = T at *
    have HR1 := Lib.hid (fun wz (h : Wk w wz) => rcert_bad ((hcut rfl).1 k hkl) wz h.g (by rw [List.length_take]; omega) h.gl)
    have HR2 := Lib.hid (fun (hT : T ≠ []) wz (h : Wk w wz) => rcert_bad ((hcut rfl).2 T hT) wz h.g (by rw [List.length_append]; omega) h.gl)
    have HR3 := Lib.hid (fun wz (h : Wk w wz) => hbk rfl wz h.g (by omega) h.gl)
    have l1 : (A.length : Int) ≠ 0 := by omega
    have l2 : (0 : Int) < (A.length : Int) := by omega
    have l3 : (0 : Int) ≤ (k : Int) := by omega
    have l4 : (k : Int) ≤ (A.length : Int) := by omega
    have L6 : Hid (A.length ≤ 60000 ∧ T.length ≤ 100) := Lib.hid (by omega)
    have HM : Hid ((m : Int) ≤ (S.length : Int) ∧ (S.length : Int) ≤ 9223372036854775807 ∧ min (S.length : Int) 100 = (m : Int) ∧ (0 : Int) ≤ (m : Int)) := Lib.hid ⟨m1, m2, hm1, m0⟩
    have HL1 : Hid ((A.length : Int) ≠ 0 ∧ (0 : Int) < (A.length : Int) ∧ (0 : Int) ≤ (k : Int) ∧ (k : Int) ≤ (A.length : Int) ∧ (at_ : Int).tmod (A.length : Int) = (k : Int) ∧ (at_ : Int) % (A.length : Int) = (k : Int)) := Lib.hid ⟨l1, l2, l3, l4, hk1, hk2⟩
    have HWR : Hid (wrap64 (at_ : Int) = (at_ : Int)) := Lib.hid (by unfold wrap64; omega)
    clear l1 l2 l3 l4 hk1 hk2 m0 m1 m2 hm1 hat hml
    have hE : A.isEmpty = false := by cases A with | nil => exact absurd rfl hne | cons a l => rfl
    clear hcut hbk hc hal hk hk3 hne hl0 hkl
    go_enter Tryz.func9, Tryz.ntmps9
    go_upto_region 1 with fail
    change Code.wp _ _ _ _ (w.alloc (.cells (certQ x).toArray 60))
    generalize w.alloc (.cells (certQ x).toArray 60) = w1 at *
    go_upto_region 3 with (go_at_call 17; refine (HWO.out _ HK1.out).mono ?_; rintro e w2 ⟨rfl, b2⟩; have HK2 := Lib.hid (HK1.out.next b2); have hx2 := (b2.block w.heap.size (lit_lt HN.out)).trans HN.out; simp only [certQ] at hx2; have c0 := (lit_cell hx2 0).trans rfl; have c1 := (lit_cell hx2 1).trans rfl; have c2 := (lit_cell hx2 2).trans rfl; have c3 := (lit_cell hx2 3).trans rfl; have c4 := (lit_cell hx2 4).trans rfl; have c5 := (lit_cell hx2 5).trans rfl)
    go_upto_region 6 with (first | (go_at_call 24; refine (HC.out _ HK2.out).mono ?_; rintro e w3 ⟨y, rfl, HY, b3⟩; have HK3 := Lib.hid (HK2.out.next b3)) | (go_at_call 25; refine (HA.out _ _ HK3.out HY).mono ?_; rintro e w4 ⟨rfl, b4⟩; have HK4 := Lib.hid (HK3.out.next b4)))
    obtain ⟨m1, m2, hm1, m0⟩ := HM.out
    go_upto_region 7 with fail
    rw [Hm3.out]
    clear m1 m2 hm1 m0 hE
    obtain ⟨l1, l2, l3, l4, hk1, hk2⟩ := HL1.out
    have hwr := HWR.out
    go_upto_region 8 with (go_at_call 27; rw [HE3.out]; refine (HR1.out _ HK4.out).mono ?_; rintro e w5 ⟨⟨g5, rfl⟩, b5⟩; have HK5 := Lib.hid (HK4.out.next b5))
    change Code.wp _ _ _ _ (w5.alloc (.cells #[.string ⟨#[]⟩, .int .u64 0, .slice none 0 0, .slice none 0 0, .slice none 0 0, .slice none 0 0] 60))
    have HK6 := Lib.hid (HK5.out.next (by0 w5 (.cells #[.string ⟨#[]⟩, .int .u64 0, .slice none 0 0, .slice none 0 0, .slice none 0 0, .slice none 0 0] 60)))
    generalize w5.alloc (.cells #[.string ⟨#[]⟩, .int .u64 0, .slice none 0 0, .slice none 0 0, .slice none 0 0, .slice none 0 0] 60) = w6 at *
    clear l1 l2 l3 l4 hk1 hk2 hwr
    by_cases hT : T = []
    · subst hT
      have hln : ¬ 9223372036854775807 < A.length := by have := L6.out.1; omega
      have HAD := Lib.hid (show (⟨A.toArray⟩ : ByteArray) ++ ⟨#[]⟩ = ⟨A.toArray⟩ by rw [show (⟨#[]⟩ : ByteArray) = ⟨([] : (List UInt8)).toArray⟩ from rfl, strAdd, List.append_nil])
      go_wp2_with (go_at_call 27; rw [HAD.out]; refine (HR3.out _ HK6.out).mono ?_; rintro e w7 ⟨⟨y7, _, rfl, _⟩, b7⟩; have HK7 := Lib.hid (HK6.out.next b7))
      refine bodyPost_ret (v := .bool true) (by simp [results, Tryz.results9, go_sem]) rfl ⟨rfl, ?_⟩
      exact (HK7.out.next (by0 w7 (.cells (certQ y7).toArray 60))).o
    · have hln : ¬ 9223372036854775807 < A.length + T.length := by have := L6.out; omega
      have hTE : T.isEmpty = false := by cases T with | nil => exact absurd rfl hT | cons a l => rfl
      have HAD := Lib.hid (strAdd A T)
      have HRT := Lib.hid (HR2.out hT)
      clear hT
      go_wp2_with (go_at_call 27; rw [HAD.out]; refine (HRT.out _ HK6.out).mono ?_; rintro e w7 ⟨⟨g7, rfl⟩, b7⟩; have HK7 := Lib.hid (HK6.out.next b7))
      refine bodyPost_ret (v := .bool true) (by simp [results, Tryz.results9, go_sem]) rfl ⟨rfl, ?_⟩
      exact (HK7.out.next (by0 w7 (.cells #[.string ⟨#[]⟩, .int .u64 0, .slice none 0 0, .slice none 0 0, .slice none 0 0, .slice none 0 0] 60))).o
  · clear hcut hbk hc hal
    go_enter Tryz.func9, Tryz.ntmps9
    go_upto_region 1 with fail
    change Code.wp _ _ _ _ (w.alloc (.cells (certQ x).toArray 60))
    generalize w.alloc (.cells (certQ x).toArray 60) = w1 at *
    go_upto_region 3 with (go_at_call 17; refine (HWO.out _ HK1.out).mono ?_; rintro e w2 ⟨rfl, b2⟩; have HK2 := Lib.hid (HK1.out.next b2); have hx2 := (b2.block w.heap.size (lit_lt HN.out)).trans HN.out; simp only [certQ] at hx2; have c0 := (lit_cell hx2 0).trans rfl; have c1 := (lit_cell hx2 1).trans rfl; have c2 := (lit_cell hx2 2).trans rfl; have c3 := (lit_cell hx2 3).trans rfl; have c4 := (lit_cell hx2 4).trans rfl; have c5 := (lit_cell hx2 5).trans rfl)
    go_wp2_with (first | (go_at_call 24; refine (HC.out _ HK2.out).mono ?_; rintro e w3 ⟨y, rfl, HY, b3⟩; have HK3 := Lib.hid (HK2.out.next b3)) | (go_at_call 25; refine (HA.out _ _ HK3.out HY).mono ?_; rintro e w4 ⟨rfl, b4⟩; have HK4 := Lib.hid (HK3.out.next b4)))
    exact bodyPost_ret (v := .bool true) (by simp [results, Tryz.results9, go_sem]) rfl ⟨rfl, HK4.out.o⟩
end Go.Proofs.YtbkiijndhjmkdaaGreatDoor
