/- The product of two numbers of four limbs, by the program: the walk. -/
import Derived.Test.YtiglhgcckceikaaWo
namespace Go.Proofs.Ytiglhgcckceikaa
open Go.RowKit

theorem Q2_lit (v : Int) (h : Limb v) : (#[.int .u64 v, .int .u64 0] : Array Value) = #[.int .u64 (d v 0), .int .u64 (d v 1)] := by
  obtain ⟨h0, h1⟩ := d_two v h.1 (by have := h.2; rw [pw_2]; omega)
  have := h.1
  have := h.2
  rw [h0, h1, Int.emod_eq_of_lt h.1 h.2, Int.ediv_eq_zero_of_lt h.1 h.2]
theorem Limb.in2 {v : Int} (h : Limb v) : In 2 v := ⟨h.1, by have := h.2; rw [pw_2]; omega⟩

theorem stepA {w : World} {b k : Nat} {u : Value} {o : Obj} (h : w.cell? ⟨b, k, none⟩ = some u ∧ b < w.heap.size) : (w.alloc o).cell? ⟨b, k, none⟩ = some u ∧ b < (w.alloc o).heap.size :=
  ⟨((below1' w o).cell (p := ⟨b, k, none⟩) h.2).trans h.1, by rw [World.size_alloc]; omega⟩
theorem stepB {w w1 : World} {b k : Nat} {u : Value} (h : w.cell? ⟨b, k, none⟩ = some u ∧ b < w.heap.size) (h1 : Below w.heap.size w w1) : w1.cell? ⟨b, k, none⟩ = some u ∧ b < w1.heap.size :=
  ⟨(h1.cell (p := ⟨b, k, none⟩) h.2).trans h.1, Nat.lt_of_lt_of_le h.2 h1.size⟩
theorem stepC {w : World} {b c k : Nat} {u v0 v1 : Value} (hne : c ≠ b) (h : w.cell? ⟨b, k, none⟩ = some u ∧ b < w.heap.size) : ((w.setCell ⟨c, 0, none⟩ v0).setCell ⟨c, 1, none⟩ v1).cell? ⟨b, k, none⟩ = some u ∧ b < ((w.setCell ⟨c, 0, none⟩ v0).setCell ⟨c, 1, none⟩ v1).heap.size :=
  ⟨(World.cell?_setCell_far _ _ _ _ hne).trans ((World.cell?_setCell_far _ _ _ _ hne).trans h.1), by rw [World.size_setCell, World.size_setCell]; exact h.2⟩
theorem stepD {w : World} {b k : Nat} {u : Value} (h : w.cell? ⟨b, k, none⟩ = some u) (h2 : b < w.heap.size) : w.drew.cell? ⟨b, k, none⟩ = some u ∧ b < w.drew.heap.size := ⟨h, h2⟩
theorem stepE {w : World} {b k : Nat} {u : Value} {o : Obj} (h : w.cell? ⟨b, k, none⟩ = some u) (h2 : b < w.heap.size) : (w.alloc o).drew.cell? ⟨b, k, none⟩ = some u ∧ b < (w.alloc o).drew.heap.size := stepA ⟨h, h2⟩
theorem M4.out {N : Nat} {A B R : Array Value} {w : World} (h : M4 N A B R w) (i : Nat) (hi : i < 8) : (∃ z, w.cell? ⟨N + 1 + 1, i, none⟩ = some z) ∧ w.frozen? ⟨N + 1 + 1, i, none⟩ = false := by
  obtain ⟨Z, hZ, ho⟩ := h.ho
  exact ⟨⟨Z[i], by rw [arow_cell ho]; simp [hZ, hi]⟩, arow_free ho i⟩
/-- behind the region: a block of two limbs beside the four -/
structure EndOk (w : World) (A B R : Array Value) (s : Int) (M : Nat) (wz : World) : Prop where
  hm : wz.heap[M]? = some (.cells #[.int .u64 (d s 0), .int .u64 (d s 1)] 49 (0, 0))
  h4 : M4 w.heap.size A B R wz
  hb : Below w.heap.size w wz
  hl : w.heap.size + 1 + 1 + 1 < M
theorem set2 {w : World} {M : Nat} {a b c e : Value} (h : w.heap[M]? = some (.cells #[a, b] 49 (0, 0))) : ((w.setCell ⟨M, 0, none⟩ c).setCell ⟨M, 1, none⟩ e).heap[M]? = some (.cells #[c, e] 49 (0, 0)) :=
  arow_set e (arow_set c h)
theorem M4.far2 {N : Nat} {A B R : Array Value} {w : World} (h : M4 N A B R w) {M : Nat} {c e : Value} (hb : N + 3 < M) : M4 N A B R ((w.setCell ⟨M, 0, none⟩ c).setCell ⟨M, 1, none⟩ e) := (h.farSet M 0 c hb).farSet M 1 e hb
theorem endA {w wr wa wb : World} {A B R : Array Value} {s : Int} (h : M4 w.heap.size A B R wr) (hbe : Below w.heap.size w wr) (hb1 : Below wr.drew.heap.size wr.drew wa) (hb2 : Below wa.heap.size wa wb) :
    EndOk w A B R s wb.heap.size (wb.alloc (.cells #[.int .u64 (d s 0), .int .u64 (d s 1)] 49)) := by
  have hl := h.lt
  have h1 : wr.heap.size ≤ wa.heap.size := hb1.size
  have h2 := hb2.size
  exact ⟨arow_new _ _ _, ((h.drew.below hb1 hl).below hb2 (by omega)).alloc _, ((hbe.drew.trans (hb1.mono (by show w.heap.size ≤ wr.heap.size; omega))).trans (hb2.mono (by omega))).alloc (by omega) _, by omega⟩
theorem endB {w wr wa wb : World} {A B R : Array Value} {s : Int} {a b : Value} (h : M4 w.heap.size A B R wr) (hbe : Below w.heap.size w wr) (hb1 : Below wr.drew.heap.size wr.drew wa) (hb2 : Below (wa.alloc (.cells #[a, b] 49)).heap.size (wa.alloc (.cells #[a, b] 49)) wb) :
    EndOk w A B R s wa.heap.size ((wb.setCell ⟨wa.heap.size, 0, none⟩ (.int .u64 (d s 0))).setCell ⟨wa.heap.size, 1, none⟩ (.int .u64 (d s 1))) := by
  have hl := h.lt
  have h1 : wr.heap.size ≤ wa.heap.size := hb1.size
  have hz : (wa.alloc (.cells #[a, b] 49)).heap.size = wa.heap.size + 1 := World.size_alloc _ _
  have hbb : Below w.heap.size w wb := ((hbe.drew.trans (hb1.mono (by show w.heap.size ≤ wr.heap.size; omega))).alloc (by omega) _).trans (hb2.mono (by omega))
  exact ⟨set2 (arow_below (arow_new _ _ _) hb2 (by omega)), (((h.drew.below hb1 hl).alloc _).below hb2 (by omega)).far2 (by omega), (hbb.setCell (by show w.heap.size ≤ wa.heap.size; omega) _).setCell (by show w.heap.size ≤ wa.heap.size; omega) _, by omega⟩
theorem endC {w wr wa wb : World} {A B R : Array Value} {s : Int} {a b : Value} (h : M4 w.heap.size A B R wr) (hbe : Below w.heap.size w wr) (hb1 : Below (wr.alloc (.cells #[a, b] 49)).drew.heap.size (wr.alloc (.cells #[a, b] 49)).drew wa) (hb2 : Below wa.heap.size wa wb) :
    EndOk w A B R s wr.heap.size ((wb.setCell ⟨wr.heap.size, 0, none⟩ (.int .u64 (d s 0))).setCell ⟨wr.heap.size, 1, none⟩ (.int .u64 (d s 1))) := by
  have hl := h.lt
  have hz : (wr.alloc (.cells #[a, b] 49)).drew.heap.size = wr.heap.size + 1 := World.size_alloc _ _
  have h1 := hb1.size
  have h2 := hb2.size
  have hbb : Below w.heap.size w wb := ((hbe.alloc (by omega) _).drew.trans (hb1.mono (by omega))).trans (hb2.mono (by omega))
  exact ⟨set2 (arow_below (arow_below (w := (wr.alloc (.cells #[a, b] 49)).drew) (arow_new wr _ _) hb1 (by omega)) hb2 (by omega)), (((h.alloc _).drew.below hb1 (by omega)).below hb2 (by omega)).far2 (by omega), (hbb.setCell (by show w.heap.size ≤ wr.heap.size; omega) _).setCell (by show w.heap.size ≤ wr.heap.size; omega) _, by omega⟩
theorem EndOk.next {w wz wc : World} {A B R : Array Value} {s t : Int} {M : Nat} (h : EndOk w A B R s M wz) (hbc : Below wz.heap.size wz wc) :
    EndOk w A B R t M ((wc.setCell ⟨M, 0, none⟩ (.int .u64 (d t 0))).setCell ⟨M, 1, none⟩ (.int .u64 (d t 1))) := by
  have hl := h.h4.lt
  have h2 := h.hl
  exact ⟨set2 (arow_below h.hm hbc (arow_lt h.hm)), (h.h4.below hbc hl).far2 (by omega), ((h.hb.trans (hbc.mono (by omega))).setCell (by show w.heap.size ≤ M; omega) _).setCell (by show w.heap.size ≤ M; omega) _, h2⟩
theorem stepF {w : World} {M c k : Nat} {u0 u1 v : Value} (hne : c ≠ M) (h : w.cell? ⟨M, 0, none⟩ = some u0 ∧ w.cell? ⟨M, 1, none⟩ = some u1) : (w.setCell ⟨c, k, none⟩ v).cell? ⟨M, 0, none⟩ = some u0 ∧ (w.setCell ⟨c, k, none⟩ v).cell? ⟨M, 1, none⟩ = some u1 :=
  ⟨(World.cell?_setCell_far _ _ _ _ hne).trans h.1, (World.cell?_setCell_far _ _ _ _ hne).trans h.2⟩

set_option maxRecDepth 100000 in
set_option maxHeartbeats 2000000 in
theorem mul4_any (A B : Array Value) (x y : Int) (w : World) (hA : A = #[.int .u64 (d x 0), .int .u64 (d x 1), .int .u64 (d x 2), .int .u64 (d x 3)]) (hB : B = #[.int .u64 (d y 0), .int .u64 (d y 1), .int .u64 (d y 2), .int .u64 (d y 3)]) (hx : In 4 x) (hy : In 4 y) :
    Calls Try.prog 23 #[.agg A, .agg B] w fun e w' => e = .returned (.agg #[.int .u64 (d (x * y) 0), .int .u64 (d (x * y) 1), .int .u64 (d (x * y) 2), .int .u64 (d (x * y) 3), .int .u64 (d (x * y) 4), .int .u64 (d (x * y) 5), .int .u64 (d (x * y) 6), .int .u64 (d (x * y) 7)]) ∧ Below w.heap.size w w' := by
  subst hA hB
  have HX := Lib.hid hx
  have HY := Lib.hid hy
  clear hx hy
  go_enter Try.func23, Try.ntmps23
  go_wp2
  go_loopw [14] (fun i wr => ∃ k : Nat, ∃ f : Nat → Int, ∃ R : Array Value, k ≤ 4 ∧ i = .int .i64 (k : Int) ∧ Hid (RowOf f 8 R) ∧ Hid (Parts x y k f) ∧ Hid (M4 w.heap.size #[.int .u64 (d x 0), .int .u64 (d x 1), .int .u64 (d x 2), .int .u64 (d x 3)] #[.int .u64 (d y 0), .int .u64 (d y 1), .int .u64 (d y 2), .int .u64 (d y 3)] R wr) ∧ Below w.heap.size w wr)
    (fun i _ => 4 - (intOf i).toNat)
  case atStart => exact ⟨0, fun _ => 0, _, by omega, rfl, Lib.hid ⟨rfl, fun k hk => zero8 k hk⟩, Lib.hid ⟨fun _ => ⟨by decide, by decide⟩, fun _ _ => rfl, by rw [pw_zero, Int.emod_one, Int.zero_mul]; simp [sm]⟩, Lib.hid (M4.start w _ _ _ _ rfl), below4' _ _ _ _ _⟩
  case round =>
    obtain ⟨k, f, R, hk, rfl, HR, HP, HM, hbe⟩ := hrel
    by_cases hlt : k < 4
    · have hix := run_index4 x k hlt
      obtain ⟨b0, b1, b2, b3⟩ := cells4 HM.out.hb
      have k1 : (k : Int) < 4 := by omega
      go_wp2
      clear hix b0 b1 b2 b3
      go_loopw [8, 19] (fun c j wr => ∃ n : Nat, ∃ f : Nat → Int, ∃ c' : Int, ∃ R : Array Value, n ≤ 4 ∧ j = .int .i64 (n : Int) ∧ c = .int .u64 c' ∧ Hid (RowOf f 8 R) ∧ Hid (Part x y k n f c') ∧ Hid (M4 w.heap.size #[.int .u64 (d x 0), .int .u64 (d x 1), .int .u64 (d x 2), .int .u64 (d x 3)] #[.int .u64 (d y 0), .int .u64 (d y 1), .int .u64 (d y 2), .int .u64 (d y 3)] R wr) ∧ Below w.heap.size w wr)
        (fun _ j _ => 4 - (intOf j).toNat)
      case atStart => exact ⟨0, f, 0, R, by omega, rfl, rfl, HR, Lib.hid HP.out.begin, HM, hbe⟩
      case round =>
        clear HR HP HM hbe
        obtain ⟨n, f, c, R, hn, rfl, rfl, HR, HP, HM, hbe⟩ := hrel
        by_cases hlt2 : n < 4
        · have hiy := run_index4 y n hlt2
          have n1 : (n : Int) < 4 := by omega
          obtain ⟨s1, s2, s3, s4⟩ := step_sum x y c k n f HP.out
          obtain ⟨p, hp⟩ : ∃ p, d x k * d y n = p := ⟨_, rfl⟩
          obtain ⟨v, hv⟩ : ∃ v, f (k + n) = v := ⟨_, rfl⟩
          have hvl : Limb v := hv ▸ HP.out.limbs (k + n)
          have hm := mul_limbs (Limb.d x k) (Limb.d y n)
          rw [hp, hv] at s1 s2 s3 s4
          rw [hp] at hm
          obtain ⟨s, hs⟩ : ∃ s, p + v = s := ⟨_, rfl⟩
          obtain ⟨t, ht⟩ : ∃ t, s + c = t := ⟨_, rfl⟩
          have HM1 := Lib.hid (fun w => mul64_any (d x k) (d y n) w (Limb.d x k) (Limb.d y n))
          have HL1 := Lib.hid (fun w => limb2_add _ _ p v w rfl (Q2_lit v hvl) ⟨hm.1, by rw [pw_2]; omega⟩ hvl.in2)
          have HL2 := Lib.hid (fun w => limb2_add _ _ s c w rfl (Q2_lit c HP.out.carry) ⟨by omega, by omega⟩ HP.out.carry.in2)
          have HT := Lib.hid (show d x k * d y n + f (k + n) + c = t by rw [hp, hv, hs, ht])
          rw [hp] at HM1
          rw [hs] at HL1
          rw [ht] at HL2
          have hcell := (arow_cell HM.out.hr (k + n)).trans (HR.out.2 (k + n) (by omega))
          rw [hv] at hcell
          have hfr := arow_free HM.out.hr (k + n)
          have w1 : IntKind.i64.wrap ((k : Int) + (n : Int)) = (k : Int) + (n : Int) := IntWalk.i64_in _ (by omega)
          have w2 : (0 : Int) ≤ (k : Int) + (n : Int) := by omega
          have w3 : (k : Int) + (n : Int) < 8 := by omega
          have w4 : ((k : Int) + (n : Int)).toNat = k + n := by omega
          have hl := HM.out.lt
          have hblk : w.heap.size + 1 + 1 + 1 < wr.heap.size := by omega
          have hn1 := Lib.hid (show wr.heap.size ≠ w.heap.size + 1 + 1 + 1 by omega)
          clear hp hv hs ht s1 s2 s3 s4 hm hl
          go_wp2
          go_region_held3 (fun w' => w'.cell? ⟨w.heap.size + 1 + 1 + 1, k + n, none⟩ = some (.int .u64 v) ∧ w.heap.size + 1 + 1 + 1 < w'.heap.size)
            (first | (with_reducible assumption) | (with_reducible exact stepD hcell hblk) | (with_reducible exact stepE hcell hblk) | (with_reducible refine stepA ?_; with_reducible assumption) | (with_reducible refine stepB ?_ hb1; with_reducible assumption) | (with_reducible refine stepB ?_ hb2; with_reducible assumption) | (with_reducible refine stepC ?_ ?_ <;> first | (with_reducible assumption) | omega))
            (first
              | (go_at_call 24; refine (HM1.out _).mono ?_; rintro e wa ⟨rfl, hb1⟩; have hSa := stepB (by with_reducible assumption) hb1; obtain ⟨hca, hfa⟩ := bcell hb1; have hza := hb1.size; (try simp only [World.size_alloc, World.size_drew] at hza); (try (have hzl := Nat.lt_of_succ_le hza)))
              | (go_at_call 43; refine (HL1.out _).mono ?_; rintro e wb ⟨rfl, hb2⟩; have hSb := stepB (by with_reducible assumption) hb2; obtain ⟨hcb, hfb⟩ := bcell hb2; have hzb := hb2.size; (try simp only [World.size_alloc] at hzb); (try (have hzm := Nat.lt_of_succ_le hzb))))
          all_goals
            first
              | (have HE := Lib.hid (endA (s := s) HM.out hbe hb1 hb2); generalize (wb.alloc (.cells #[.int .u64 (d s 0), .int .u64 (d s 1)] 49)) = wz at HE ⊢; generalize wb.heap.size = M at HE ⊢)
              | (have HE := Lib.hid (endB (s := s) HM.out hbe hb1 hb2); generalize ((wb.setCell ⟨wa.heap.size, 0, none⟩ (.int .u64 (d s 0))).setCell ⟨wa.heap.size, 1, none⟩ (.int .u64 (d s 1))) = wz at HE ⊢; generalize wa.heap.size = M at HE ⊢)
              | (have HE := Lib.hid (endC (s := s) HM.out hbe hb1 hb2); generalize ((wb.setCell ⟨wr.heap.size, 0, none⟩ (.int .u64 (d s 0))).setCell ⟨wr.heap.size, 1, none⟩ (.int .u64 (d s 1))) = wz at HE ⊢; generalize wr.heap.size = M at HE ⊢)
            clear hb1 hb2 hca hfa hcb hfb hSa hSb hza hzb hbe HM hcell hfr hblk
            have m0 := (arow_cell HE.out.hm 0).trans rfl
            have m1 := (arow_cell HE.out.hm 1).trans rfl
            have f0 := arow_free HE.out.hm 0
            have f1 := arow_free HE.out.hm 1
            have hlm := arow_lt HE.out.hm
            go_wp2_with (go_at_call 43; refine (HL2.out _).mono ?_; rintro e wc ⟨rfl, hbc⟩; obtain ⟨hcc, hfc⟩ := bcell hbc)
            have HE2 := Lib.hid (HE.out.next (t := t) hbc)
            clear hcc hfc m0 m1 f0 f1 hlm HE hbc
            generalize ((wc.setCell ⟨M, 0, none⟩ (.int .u64 (d t 0))).setCell ⟨M, 1, none⟩ (.int .u64 (d t 1))) = wy at HE2 ⊢
            have m0 : wy.cell? ⟨M, 0, none⟩ = some (.int .u64 (d t 0)) := (arow_cell HE2.out.hm 0).trans rfl
            have m1 : wy.cell? ⟨M, 1, none⟩ = some (.int .u64 (d t 1)) := (arow_cell HE2.out.hm 1).trans rfl
            have hcell := (arow_cell HE2.out.h4.hr (k + n)).trans (HR.out.2 (k + n) (by omega))
            have hfr := arow_free HE2.out.h4.hr (k + n)
            have hn2 := HE2.out.hl
            have hn3 := Lib.hid (show w.heap.size + 1 + 1 + 1 ≠ M by omega)
            go_region_held3 (fun w' => w'.cell? ⟨M, 0, none⟩ = some (.int .u64 (d t 0)) ∧ w'.cell? ⟨M, 1, none⟩ = some (.int .u64 (d t 1)))
              (((try simp only [World.cell?_drew]); first | (with_reducible exact ⟨m0, m1⟩) | (with_reducible exact stepF hn3.out ⟨m0, m1⟩)))
              (fail)
            go_wp2
            go_roundw
            case rel => exact ⟨n + 1, upd f (k + n) (d t 0), d t 1, R.setIfInBounds (k + n) _, by omega, by go_num, rfl, Lib.hid (HR.out.set (k + n) _), Lib.hid (HP.out.next hlt hlt2 t HT.out), Lib.hid (HE2.out.h4.store (k + n) _).drew, (HE2.out.hb.setCell (by show w.heap.size ≤ w.heap.size + 1 + 1 + 1; omega) _).drew⟩
            case measure => simp [intOf] <;> omega
        · have en : n = 4 := by omega
          have HD := Lib.hid (show Parts x y (k + 1) (upd f (k + 4) c) by have := HP.out; rw [en] at this; exact this.done hlt HY.out)
          have hcell := (arow_cell HM.out.hr (k + 4)).trans (HR.out.2 (k + 4) (by omega))
          have hfr := arow_free HM.out.hr (k + 4)
          have w2 : (k : Int) + 4 < 8 := by omega
          have w3 : 0 ≤ (k : Int) + 4 := by omega
          have w4 : ((k : Int) + 4).toNat = k + 4 := by omega
          clear en
          go_wp2
          go_roundw
          case rel => exact ⟨k + 1, upd f (k + 4) c, R.setIfInBounds (k + 4) _, by omega, by go_num, Lib.hid (HR.out.set (k + 4) _), HD, Lib.hid (HM.out.store (k + 4) _), hbe.setCell (by show w.heap.size ≤ w.heap.size + 1 + 1 + 1; omega) _⟩
          case measure => simp [intOf] <;> omega
    · have ek : k = 4 := by omega
      have HF := Lib.hid (show ∀ j, j < 8 → some (Value.int .u64 (f j)) = some (Value.int .u64 (d (x * y) j)) by
        intro j hj
        have h1 := HP.out.sum
        rw [ek, Int.emod_eq_of_lt HX.out.1 HX.out.2] at h1
        rw [← h1, d_of_sm f 8 (fun i _ => HP.out.limbs i) j hj])
      clear ek
      have r0 := (arow_cell HM.out.hr 0).trans ((HR.out.2 0 (by omega)).trans (HF.out 0 (by omega)))
      have r1 := (arow_cell HM.out.hr 1).trans ((HR.out.2 1 (by omega)).trans (HF.out 1 (by omega)))
      have r2 := (arow_cell HM.out.hr 2).trans ((HR.out.2 2 (by omega)).trans (HF.out 2 (by omega)))
      have r3 := (arow_cell HM.out.hr 3).trans ((HR.out.2 3 (by omega)).trans (HF.out 3 (by omega)))
      have r4 := (arow_cell HM.out.hr 4).trans ((HR.out.2 4 (by omega)).trans (HF.out 4 (by omega)))
      have r5 := (arow_cell HM.out.hr 5).trans ((HR.out.2 5 (by omega)).trans (HF.out 5 (by omega)))
      have r6 := (arow_cell HM.out.hr 6).trans ((HR.out.2 6 (by omega)).trans (HF.out 6 (by omega)))
      have r7 := (arow_cell HM.out.hr 7).trans ((HR.out.2 7 (by omega)).trans (HF.out 7 (by omega)))
      obtain ⟨⟨z0, o0⟩, f0⟩ := HM.out.out 0 (by omega)
      obtain ⟨⟨z1, o1⟩, f1⟩ := HM.out.out 1 (by omega)
      obtain ⟨⟨z2, o2⟩, f2⟩ := HM.out.out 2 (by omega)
      obtain ⟨⟨z3, o3⟩, f3⟩ := HM.out.out 3 (by omega)
      obtain ⟨⟨z4, o4⟩, f4⟩ := HM.out.out 4 (by omega)
      obtain ⟨⟨z5, o5⟩, f5⟩ := HM.out.out 5 (by omega)
      obtain ⟨⟨z6, o6⟩, f6⟩ := HM.out.out 6 (by omega)
      obtain ⟨⟨z7, o7⟩, f7⟩ := HM.out.out 7 (by omega)
      go_wp2
      refine bodyPost_ret (v := .agg #[.int .u64 (d (x * y) 0), .int .u64 (d (x * y) 1), .int .u64 (d (x * y) 2), .int .u64 (d (x * y) 3), .int .u64 (d (x * y) 4), .int .u64 (d (x * y) 5), .int .u64 (d (x * y) 6), .int .u64 (d (x * y) 7)]) ?_ rfl ⟨rfl, ?_⟩
      · simp [results, Try.results23, go_sem, *]
      · have hN : w.heap.size ≤ w.heap.size + 1 + 1 := by omega
        exact ((((((((hbe.setCell hN _).setCell hN _).setCell hN _).setCell hN _).setCell hN _).setCell hN _).setCell hN _).setCell hN _)
end Go.Proofs.Ytiglhgcckceikaa
