/- ChainGoes: its walk. -/
import Derived.Test.YtdobmhbfadijoaaDoorEf
namespace Go.Proofs.YtdobmhbfadijoaaDoor
open Go.RowKit

/-- an array of four bytes in its block, and what is kept -/
abbrev Ar4 (b : Nat) (v0 v1 v2 v3 : Value) (W wz : World) : Prop := wz.cell? ⟨b, 0, none⟩ = some v0 ∧ wz.cell? ⟨b, 1, none⟩ = some v1 ∧ wz.cell? ⟨b, 2, none⟩ = some v2 ∧ wz.cell? ⟨b, 3, none⟩ = some v3 ∧ Below W.heap.size W wz
theorem ar4_next {b : Nat} {v0 v1 v2 v3 : Value} {W wz wa : World} (h : Ar4 b v0 v1 v2 v3 W wz) (hb : Below wz.heap.size wz wa) : Ar4 b v0 v1 v2 v3 W wa := by
  obtain ⟨h0, h1, h2, h3, h4⟩ := h
  have k : ∀ {o : Nat} {v : Value}, wz.cell? ⟨b, o, none⟩ = some v → wa.cell? ⟨b, o, none⟩ = some v := fun hc => (World.cell?_of_block (hb.block _ (World.block_lt_of_cell? wz _ hc))).trans hc
  exact ⟨k h0, k h1, k h2, k h3, h4.trans (hb.mono h4.size)⟩
theorem conv_at (v n : Nat) (w : World) (h : w.cell? ⟨n, 0, none⟩ = some (.int .u8 (v : Int))) (hv : v < 256) : (convert 31 9 (.slice (some ⟨n, 0, none⟩) 1 1)).run Tryd.prog w = .ok (.string ⟨#[UInt8.ofNat v]⟩) w := by
  have := conv_bytes [UInt8.ofNat v] n 1 w (fun j hj => by
    have e : j = 0 := by simpa using hj
    subst e
    rw [h]
    have h1 := byte_mod v
    simp only [List.getElem_cons_zero]
    congr 2
    omega)
  simpa using this
theorem conv_two (v : Nat) (hv : v < 256) (o : Obj) (wz : World) : (convert 31 9 (.slice (some ⟨wz.heap.size + 1, 0, none⟩) 1 1)).run Tryd.prog ((wz.alloc o).alloc (.cells #[.int .u8 (v : Int)] 5)) = .ok (.string ⟨#[UInt8.ofNat v]⟩) ((wz.alloc o).alloc (.cells #[.int .u8 (v : Int)] 5)) := by
  have := conv_one v hv (wz.alloc o)
  rwa [World.size_alloc] at this
theorem conv_old (v : Nat) (hv : v < 256) (o : Obj) (wz : World) : (convert 31 9 (.slice (some ⟨wz.heap.size, 0, none⟩) 1 1)).run Tryd.prog ((wz.alloc (.cells #[.int .u8 (v : Int)] 5)).alloc o) = .ok (.string ⟨#[UInt8.ofNat v]⟩) ((wz.alloc (.cells #[.int .u8 (v : Int)] 5)).alloc o) :=
  conv_at v _ _ ((lit_cell (lit_old o (heap_alloc_new wz _)) 0).trans rfl) hv
theorem cell_new1 (wz : World) (v : Value) (t : TypeId) : (wz.alloc (.cells #[v] t)).cell? ⟨wz.heap.size, 0, none⟩ = some v := (lit_cell (heap_alloc_new wz _) 0).trans rfl
theorem cell_new2 (wz : World) (o : Obj) (v : Value) (t : TypeId) : ((wz.alloc o).alloc (.cells #[v] t)).cell? ⟨wz.heap.size + 1, 0, none⟩ = some v := by
  have := cell_new1 (wz.alloc o) v t
  rwa [World.size_alloc] at this
theorem cell_old1 (wz : World) (o : Obj) (v : Value) (t : TypeId) : ((wz.alloc (.cells #[v] t)).alloc o).cell? ⟨wz.heap.size, 0, none⟩ = some v := (lit_cell (lit_old o (heap_alloc_new wz _)) 0).trans rfl
theorem cell_drew1 (wz : World) (a : Addr) : wz.drew.cell? a = wz.cell? a := rfl
theorem keep_cells {W w8 : World} (hb : Below W.heap.size W w8) (n : Nat) (h : n < W.heap.size) : w8.cell? ⟨n, 0, none⟩ = W.cell? ⟨n, 0, none⟩ := World.cell?_of_block (hb.block _ h)
theorem keep_cells2 {W w8 : World} (hb : Below W.heap.size W w8) (n : Nat) (h : n < W.heap.size) (o : Obj) : (w8.alloc o).cell? ⟨n, 0, none⟩ = W.cell? ⟨n, 0, none⟩ := (World.cell?_of_block (heap_alloc_old w8 o (Nat.lt_of_lt_of_le h hb.size))).trans (keep_cells hb n h)
theorem strs3_at (x y z : (List UInt8)) (wz : World) (sz : Nat) (h : sz = wz.heap.size) : Strs (some ⟨sz, 0, none⟩) [x, y, z] (wz.alloc (.cells #[.string ⟨x.toArray⟩, .string ⟨y.toArray⟩, .string ⟨z.toArray⟩] 9)) := by
  subst h
  exact strs_new wz [x, y, z] _ rfl
theorem below_drew {w wz : World} (h : Below w.heap.size w wz) : Below w.heap.size w wz.drew := below_next h (Below.refl _ _).drew
theorem goes_nums (n0 n1 n2 n3 : Nat) : ∃ i a b c : Nat, i = n0 % 67 ∧ a = n1 % 16 ∧ b = a + n2 % (16 - a) ∧ c = b + n3 % (16 - b) ∧ i ≤ 66 ∧ a ≤ b ∧ b ≤ c ∧ c ≤ 15 := by
  refine ⟨n0 % 67, n1 % 16, n1 % 16 + n2 % (16 - n1 % 16), n1 % 16 + n2 % (16 - n1 % 16) + n3 % (16 - (n1 % 16 + n2 % (16 - n1 % 16))), rfl, rfl, rfl, rfl, ?_, ?_, ?_, ?_⟩
  · omega
  · omega
  · omega
  · have h1 : n1 % 16 < 16 := Nat.mod_lt _ (by decide)
    have h2 : n2 % (16 - n1 % 16) < 16 - n1 % 16 := Nat.mod_lt _ (by omega)
    have h3 : n3 % (16 - (n1 % 16 + n2 % (16 - n1 % 16))) < 16 - (n1 % 16 + n2 % (16 - n1 % 16)) := Nat.mod_lt _ (by omega)
    omega
set_option maxRecDepth 100000 in
set_option maxHeartbeats 100000000 in
theorem chainGoes_any (C : ChainC) (n0 n1 n2 n3 : Nat) (hn : n0 < 256 ∧ n1 < 256 ∧ n2 < 256 ∧ n3 < 256) (x : (List UInt8)) (w : World) (hg : Glob w) : Calls Tryd.prog 7 #[.agg #[.int .u8 (n0 : Int), .int .u8 (n1 : Int), .int .u8 (n2 : Int), .int .u8 (n3 : Int)], .string ⟨x.toArray⟩] w fun e w' => e = .returned (.bool true) ∧ Below w.heap.size w w' := by
  obtain ⟨hn0, hn1, hn2, hn3⟩ := hn
  obtain ⟨m, hm1, hm2, hm3⟩ := extract_take x 60
  rw [show ((60 : Nat) : Int) = 60 from rfl] at hm1
  have hk0 : (0 : Int) ≤ (m : Int) := by omega
  have hk1 : (m : Int) ≤ (x.length : Int) := by omega
  have HL := Lib.hid (show (x.take 60).length ≤ 10000000 by rw [List.length_take]; omega)
  obtain ⟨i, a, b, c, ei, ea, eb, ec, hi, hab, hbc, hc⟩ := goes_nums n0 n1 n2 n3
  have i1 : (n0 : Int) % 67 = (i : Int) := by omega
  have a1 : (n1 : Int) % 16 = (a : Int) := by omega
  have b0 : (16 : Int) - (a : Int) = ((16 - a : Nat) : Int) := by omega
  have b1 : (n2 : Int) % ((16 - a : Nat) : Int) = ((n2 % (16 - a) : Nat) : Int) := by rfl
  have b2 : (a : Int) + ((n2 % (16 - a) : Nat) : Int) = (b : Int) := by omega
  have c0 : (16 : Int) - (b : Int) = ((16 - b : Nat) : Int) := by omega
  have c1 : (n3 : Int) % ((16 - b : Nat) : Int) = ((n3 % (16 - b) : Nat) : Int) := by rfl
  have c2 : (b : Int) + ((n3 % (16 - b) : Nat) : Int) = (c : Int) := by omega
  have z1 : ((16 - a : Nat) : Int) ≠ 0 := by omega
  have z2 : ((16 - b : Nat) : Int) ≠ 0 := by omega
  obtain ⟨B, hB⟩ : ∃ B, B = w.heap.size := ⟨_, rfl⟩
  obtain ⟨w1, hw1⟩ : ∃ w1, w1 = w.alloc (.cells #[.int .u8 (n0 : Int), .int .u8 (n1 : Int), .int .u8 (n2 : Int), .int .u8 (n3 : Int)] 34) := ⟨_, rfl⟩
  have hb1 : Below w.heap.size w w1 := by rw [hw1]; exact by0 w _
  have hbl : w1.heap[B]? = some (.cells #[.int .u8 (n0 : Int), .int .u8 (n1 : Int), .int .u8 (n2 : Int), .int .u8 (n3 : Int)] 34 (0, 0)) := by rw [hw1, hB]; exact heap_alloc_new _ _
  have hS1 : Ar4 B (.int .u8 (n0 : Int)) (.int .u8 (n1 : Int)) (.int .u8 (n2 : Int)) (.int .u8 (n3 : Int)) w1 w1 := ⟨(lit_cell hbl 0).trans rfl, (lit_cell hbl 1).trans rfl, (lit_cell hbl 2).trans rfl, (lit_cell hbl 3).trans rfl, Below.refl _ _⟩
  have hg1 : Glob w1 := hg.below hg.size hb1
  have HW := Lib.hid (fun wz (h : Below w1.heap.size w1 wz) => works12_any C wz (hg1.below hg1.size h))
  have HKab := Lib.hid (fun wz (h : Below w1.heap.size w1 wz) => C.k i a b (x.take 60) wz (hg1.below hg1.size h) HL.out)
  have HKbc := Lib.hid (fun wz (h : Below w1.heap.size w1 wz) => C.k i b c (walkV i a b (x.take 60)) wz (hg1.below hg1.size h) (walkV_len _ _ _ _ HL.out))
  have HKac := Lib.hid (fun wz (h : Below w1.heap.size w1 wz) => C.k i a c (x.take 60) wz (hg1.below hg1.size h) HL.out)
  rw [walkV_two i a b c _ hi hab hbc hc] at HKbc
  have HW1 := Lib.hid hw1
  have HBB := Lib.hid hB
  have HB1 := Lib.hid hb1
  have HS1 := Lib.hid hS1
  have HG1 := Lib.hid hg1
  have HQ := Lib.hid (show a = c → walkV i a c (x.take 60) = x.take 60 from fun e => by rw [← e]; exact walkV_self i a _ hi (by omega))
  have HP := Lib.hid (show a < c → walkV i a c (x.take 60) = hashL chainT [[UInt8.ofNat i], [UInt8.ofNat (c - 1)], walkV i a (c - 1 : Nat) (x.take 60)] from fun e => walkV_last i a c _ hi e hc)
  have HKad := Lib.hid (fun wz (h : Below w1.heap.size w1 wz) => C.k i a (c - 1 : Nat) (x.take 60) wz (hg1.below hg1.size h) HL.out)
  have HVL := Lib.hid (walkV_len i a (c - 1 : Nat) (x.take 60) HL.out)
  clear hg hg1 hw1 hB hb1 hbl hS1 ei ea eb ec
  generalize walkV i a c (x.take 60) = V at *
  generalize walkV i a b (x.take 60) = U at *
  generalize walkV i a (c - 1 : Nat) (x.take 60) = T at *
  generalize x.take 60 = X at *
  generalize n2 % (16 - a) = q2 at *
  generalize n3 % (16 - b) = q3 at *
  generalize 16 - a = p2 at *
  generalize 16 - b = p3 at *
  go_enter Tryd.func7, Tryd.ntmps7
  go_upto_region 1 with fail
  rw [← HW1.out, ← HBB.out]
  have s0 := HS1.out
  go_upto_region 4 with (go_at_call 12; with_reducible refine (HW.out _ (show Below w1.heap.size w1 w1 from Below.refl _ _)).mono ?_; rintro e w2 ⟨rfl, hb2⟩; have s1 := ar4_next s0 hb2; clear hb2)
  go_quiet (fail)
  have s2 := ar4_next s1 (by0q _ nq)
  clear s0 s1
  generalize w2.drewN nq = w3 at *
  obtain ⟨y0, y1, y2, y3, HB3⟩ := s2
  have HB3 := Lib.hid HB3
  go_upto_region 7 with fail
  clear y0 y1 y2 y3 i1 a1 b0 b1 b2 c0 c1 c2 z1 z2
  have HG := HB3
  go_upto_region 9 with (first
    | (go_at_call 13; with_reducible refine (HKab.out _ HG.out).mono ?_; rintro e w4 ⟨rfl, hb4⟩; have HG := Lib.hid (below_next HG.out hb4); clear hb4)
    | (go_at_call 13; with_reducible refine (HKbc.out _ HG.out).mono ?_; rintro e w5 ⟨rfl, hb5⟩; have HG := Lib.hid (below_next HG.out hb5); clear hb5)
    | (go_at_call 13; with_reducible refine (HKac.out _ HG.out).mono ?_; rintro e w6 ⟨rfl, hb6⟩; have HG := Lib.hid (below_next HG.out hb6); clear hb6))
  by_cases e : a = c
  · have hV := HQ.out e
    subst hV
    clear HP HQ
    subst e
    go_wp2_with (go_at_call 13; with_reducible refine (HKac.out _ HG.out).mono ?_; rintro e w6 ⟨rfl, hb6⟩; have HG := Lib.hid (below_next HG.out hb6); clear hb6)
    exact bodyPost_ret (v := .bool true) (by simp [results, Tryd.results7, go_sem]) rfl ⟨rfl, below_next HB1.out HG.out⟩
  · have hlt : a < c := by omega
    have ei : ¬ (a : Int) = (c : Int) := by omega
    have hV := HP.out hlt
    clear HP HQ HKab HKbc e
    have d1 : (c : Int) - 1 = ((c - 1 : Nat) : Int) := by omega
    have d2 : c - 1 ≤ 15 := by omega
    generalize c - 1 = d at *
    go_upto_region 12 with (go_at_call 13; with_reducible refine (HKad.out _ HG.out).mono ?_; rintro e w7 ⟨rfl, hb7⟩; have HG := Lib.hid (below_next HG.out hb7); clear hb7)
    have HC1 := Lib.hid (fun wz (h : Below w1.heap.size w1 wz) (sz : Nat) (hsz : sz = wz.heap.size) => hash3_at chainT [UInt8.ofNat i] [UInt8.ofNat d] T wz sz hsz (HG1.out.below HG1.out.size h) (by decide) (by simp) (by simp) HVL.out)
    rw [← hV] at HC1
    have hwi : IntKind.u8.wrap (i : Int) = (i : Int) := by simp [IntKind.wrap, IntKind.bits, IntKind.signed]; omega
    have hwd : IntKind.u8.wrap (d : Int) = (d : Int) := by simp [IntKind.wrap, IntKind.bits, IntKind.signed]; omega
    have hwe : IntKind.i64.wrap (d : Int) = (d : Int) := IntWalk.i64_in _ (by omega)
    have HC2 := Lib.hid (show ∀ (wz : World) (n : Nat), Below w1.heap.size w1 wz → Strs (some ⟨n, 0, none⟩) [[UInt8.ofNat i], [UInt8.ofNat d], T] wz → Calls Tryd.prog 15 #[.string ⟨#[99, 104, 97, 105, 110]⟩, .slice (some ⟨n, 0, none⟩) 3 3] wz fun e w' => e = .returned (.string ⟨V.toArray⟩) ∧ Below wz.heap.size wz w' from fun wz n h hS => by
      rw [hV]
      exact hash_any chainT (some ⟨n, 0, none⟩) 3 [[UInt8.ofNat i], [UInt8.ofNat d], T] wz (HG1.out.below HG1.out.size h) hS (by unfold maxLen; decide) (Nat.lt_of_lt_of_le (framed_short chainT _ (by decide) (by intro u hu; simp at hu; rcases hu with rfl | rfl | rfl <;> first | exact HVL.out | simp) (by simp)) (by decide)))
    have hci : ∀ (n : Nat) (wz : World), wz.cell? ⟨n, 0, none⟩ = some (.int .u8 (i : Int)) → (convert 31 9 (.slice (some ⟨n, 0, none⟩) 1 1)).run Tryd.prog wz = .ok (.string ⟨#[UInt8.ofNat i]⟩) wz := fun n wz h => conv_at i n wz h (by omega)
    have hcd : ∀ (n : Nat) (wz : World), wz.cell? ⟨n, 0, none⟩ = some (.int .u8 (d : Int)) → (convert 31 9 (.slice (some ⟨n, 0, none⟩) 1 1)).run Tryd.prog wz = .ok (.string ⟨#[UInt8.ofNat d]⟩) wz := fun n wz h => conv_at d n wz h (by omega)
    have hnew := cell_new1
    have hnew1 := cell_new2
    have hold := cell_old1
    have hdr := cell_drew1
    have hs0 := HG.out
    have hs1 := below_drew hs0
    clear HG
    go_region_with
      (first
        | (go_at_call 13; refine (HKac.out _ ?_).mono ?_; (focus (first | (with_reducible assumption) | (with_reducible exact below_alloc (by with_reducible assumption) _) | (with_reducible exact below_drew (below_alloc (by with_reducible assumption) _)) | (with_reducible exact below_alloc (below_alloc (by with_reducible assumption) _) _) | (with_reducible exact below_drew (below_alloc (below_alloc (by with_reducible assumption) _) _)) | (with_reducible exact below_alloc (below_alloc (below_alloc (by with_reducible assumption) _) _) _) | (with_reducible exact below_drew (below_alloc (below_alloc (below_alloc (by with_reducible assumption) _) _) _)))); rintro e w8 ⟨rfl, hb8⟩; (try have hkA := keep_cells hb8 w7.heap.size (by first | (simp; done) | (simp; omega))); (try have hkB := keep_cells hb8 (w7.heap.size + 1) (by first | (simp; done) | (simp; omega))); (try have hkC := keep_cells2 hb8 w7.heap.size (by first | (simp; done) | (simp; omega))); have hs8 := below_next (by first | (with_reducible assumption) | (with_reducible exact below_alloc (by with_reducible assumption) _) | (with_reducible exact below_drew (below_alloc (by with_reducible assumption) _)) | (with_reducible exact below_alloc (below_alloc (by with_reducible assumption) _) _) | (with_reducible exact below_drew (below_alloc (below_alloc (by with_reducible assumption) _) _)) | (with_reducible exact below_alloc (below_alloc (below_alloc (by with_reducible assumption) _) _) _) | (with_reducible exact below_drew (below_alloc (below_alloc (below_alloc (by with_reducible assumption) _) _) _)) : Below w1.heap.size w1 _) hb8)
        | (go_at_call 15; refine (HC1.out _ ?_ _ ?_).mono ?_; (focus (first | (with_reducible assumption) | (with_reducible exact below_alloc (by with_reducible assumption) _) | (with_reducible exact below_drew (below_alloc (by with_reducible assumption) _)) | (with_reducible exact below_alloc (below_alloc (by with_reducible assumption) _) _) | (with_reducible exact below_drew (below_alloc (below_alloc (by with_reducible assumption) _) _)) | (with_reducible exact below_alloc (below_alloc (below_alloc (by with_reducible assumption) _) _) _) | (with_reducible exact below_drew (below_alloc (below_alloc (below_alloc (by with_reducible assumption) _) _) _)))); (focus (simp; done)); rintro e w9 ⟨rfl, hb9⟩; have hs9 := below_next (by first | (with_reducible assumption) | (with_reducible exact below_alloc (by with_reducible assumption) _) | (with_reducible exact below_drew (below_alloc (by with_reducible assumption) _)) | (with_reducible exact below_alloc (below_alloc (by with_reducible assumption) _) _) | (with_reducible exact below_drew (below_alloc (below_alloc (by with_reducible assumption) _) _)) | (with_reducible exact below_alloc (below_alloc (below_alloc (by with_reducible assumption) _) _) _) | (with_reducible exact below_drew (below_alloc (below_alloc (below_alloc (by with_reducible assumption) _) _) _)) : Below w1.heap.size w1 _) hb9)
        | (go_at_call 15; refine (HC2.out _ _ ?_ ?_).mono ?_; (focus (with_reducible assumption)); (focus (refine Strs.below ?_ (Nat.le_refl _) hb8; first | exact strs3_at _ _ _ _ _ (by simp) | exact strs_drew (strs3_at _ _ _ _ _ (by simp)))); rintro e w9 ⟨rfl, hb9⟩; have hs9 := below_next (by with_reducible assumption : Below w1.heap.size w1 _) hb9))
    all_goals
      have HF := Lib.hid (below_next HB1.out (by with_reducible assumption : Below w1.heap.size w1 w9))
      go_wp2
      exact bodyPost_ret (v := .bool true) (by simp [results, Tryd.results7, go_sem]) rfl ⟨rfl, HF.out⟩
end Go.Proofs.YtdobmhbfadijoaaDoor
