/- The reference's block: it returns the eight words that the rounds give, and leaves all memory below as it was. -/
import Derived.Test.YtmnklonoelpidaaGreatDoorJ5
import Derived.StillTailTactics
namespace Go.Proofs.YtmnklonoelpidaaGreatDoor
open Go.RowKit

/-- the blocks that the reference's block lays -/
structure Lai (N : Nat) (V R : Array Value) (w : World) : Prop where
  hv : w.heap[N]? = some (.cells V 179 (0, 0))
  ho : ∃ Z : Array Value, Z.size = 8 ∧ w.heap[N+1]? = some (.cells Z 179 (0, 0))
  hr : w.heap[N+2]? = some (.cells R 205 (0, 0))
theorem Lai.cellV {N : Nat} {V R : Array Value} {w : World} (h : Lai N V R w) (i : Nat) : w.cell? ⟨N, i, none⟩ = V[i]? := by
  simp [World.cell?, h.hv]
theorem Lai.cellR {N : Nat} {V R : Array Value} {w : World} (h : Lai N V R w) (i : Nat) : w.cell? ⟨N+1+1, i, none⟩ = R[i]? := by
  simp [World.cell?, h.hr]
theorem Lai.frR {N : Nat} {V R : Array Value} {w : World} (h : Lai N V R w) (i : Nat) : w.frozen? ⟨N+1+1, i, none⟩ = false := by
  simp [World.frozen?, h.hr]
theorem Lai.store {N : Nat} {V R : Array Value} {w : World} (h : Lai N V R w) (k : Nat) (u : Value) : Lai N V (R.setIfInBounds k u) (w.setCell ⟨N+1+1, k, none⟩ u) := by
  obtain ⟨hv, ⟨Z, hZ, ho⟩, hr⟩ := h
  refine ⟨?_, ⟨Z, hZ, ?_⟩, ?_⟩
  · rw [Below.heap_setCell _ _ _ _ (by simp; omega)]; exact hv
  · rw [Below.heap_setCell _ _ _ _ (by simp)]; exact ho
  · show (w.heap.modify (N + 2) _)[N + 2]? = _
    rw [Array.getElem?_modify, if_pos rfl, hr]
    rfl
theorem Lai.drew {N : Nat} {V R : Array Value} {w : World} (h : Lai N V R w) : Lai N V R w.drew := ⟨h.hv, h.ho, h.hr⟩
theorem Lai.drewN {N : Nat} {V R : Array Value} {w : World} (h : Lai N V R w) (n : Nat) : Lai N V R (w.drewN n) := ⟨h.hv, h.ho, h.hr⟩
theorem Lai.size {N : Nat} {V R : Array Value} {w : World} (h : Lai N V R w) : N + 2 < w.heap.size := by
  have := h.hr
  rw [Array.getElem?_eq_some_iff] at this
  exact this.1
theorem Lai.below {N B : Nat} {V R : Array Value} {w w' : World} (h : Lai N V R w) (hb : Below B w w') (hB : N + 2 < B) : Lai N V R w' := by
  obtain ⟨hv, ⟨Z, hZ, ho⟩, hr⟩ := h
  exact ⟨(hb.block _ (by omega)).trans hv, ⟨Z, hZ, (hb.block _ (by omega)).trans ho⟩, (hb.block _ (by omega)).trans hr⟩
theorem Lai.outAt {N : Nat} {V R : Array Value} {w : World} (h : Lai N V R w) (i : Nat) (hi : i < 8) : (∃ z, w.cell? ⟨N+1, i, none⟩ = some z) ∧ w.frozen? ⟨N+1, i, none⟩ = false := by
  obtain ⟨Z, hZ, ho⟩ := h.ho
  exact ⟨⟨Z[i], by simp [World.cell?, ho]⟩, by simp [World.frozen?, ho]⟩
theorem lai_start (w : World) (V Z R : Array Value) (hZ : Z.size = 8) : Lai w.heap.size V R (((w.alloc (.cells V 179)).alloc (.cells Z 179)).alloc (.cells R 205)) := by
  refine ⟨?_, ⟨Z, hZ, ?_⟩, ?_⟩
  · rw [Below.heap_alloc _ _ _ (by simp; omega), Below.heap_alloc _ _ _ (by simp)]; exact heap_alloc_new w _
  · rw [Below.heap_alloc _ _ _ (by simp)]
    have := heap_alloc_new (w.alloc (.cells V 179)) (.cells Z 179)
    rwa [World.size_alloc] at this
  · have := heap_alloc_new ((w.alloc (.cells V 179)).alloc (.cells Z 179)) (.cells R 205)
    rwa [World.size_alloc, World.size_alloc] at this
theorem below3 (w : World) (A B C : Obj) : Below w.heap.size w (((w.alloc A).alloc B).alloc C) :=
  (((Below.refl _ _).alloc (Nat.le_refl _) _).alloc (by simp) _).alloc (by simp; omega) _

theorem rt_int (x : BitVec 32) (k : Int) (w : World) (k1 : 1 ≤ k) (k2 : k < 32) :
    Calls Tryz.prog 163 #[.int .u32 (tn x), .int .i64 k] w fun e w' => e = .returned (.int .u32 (tn (x.rotateRight k.toNat))) ∧ ∃ n, w' = w.drewN n := by
  have h := rt_any x k.toNat w (by omega) (by omega)
  rwa [Int.toNat_of_nonneg (by omega)] at h
theorem run_indexB (B : List UInt8) (i : Nat) (x : Int) (hx : x = (i : Int)) (hi : i < B.length) (w : World) : (Instr.index 9 (.string ⟨B.toArray⟩) (.int .i64 x)).run Tryz.prog w = .ok (.int .u8 (tn (cOf B i))) w := by
  subst hx
  rw [run_index_string w 9 _ _ _ Tryz.underlying9, dif_pos ⟨by omega, by show (i : Int) < (B.length : Int); omega⟩, cOf, tn_byte, List.getD_eq_getElem?_getD, List.getElem?_eq_getElem hi]
  rfl
theorem ref_sched (c : Nat → BitVec 32) (k : Nat) (h : 16 ≤ k) : tn (sched c (k - 16) + ((sched c (k - 15)).rotateRight 7 ^^^ (sched c (k - 15)).rotateRight 18 ^^^ sched c (k - 15) >>> 3) + sched c (k - 7) + ((sched c (k - 2)).rotateRight 17 ^^^ (sched c (k - 2)).rotateRight 19 ^^^ sched c (k - 2) >>> 10)) = tn (sched c k) := by
  rw [sched_hi c k h, sig0, sig1, turnedBy2, turnedBy2]
  congr 2
  rw [BitVec.add_assoc, BitVec.add_comm _ (sched c (k - 7)), ← BitVec.add_assoc]

theorem x4 (a b c d : BitVec 32) : (tn a + tn b + tn c + tn d) % (4294967296 : Int) = tn (a + b + c + d) := by
  unfold tn; simp only [BitVec.toNat_add]; omega
theorem x5 (a b c d e : BitVec 32) : (tn a + tn b + tn c + tn d + tn e) % (4294967296 : Int) = tn (a + b + c + d + e) := by
  unfold tn; simp only [BitVec.toNat_add]; omega
theorem not_if (x : BitVec 32) : bits BinOp.xor IntKind.u32 (if IntKind.u32.signed = true then -1 else IntKind.u32.max) (tn x) = tn (~~~x) := by
  rw [if_neg (by decide)]; exact not_u32 x
theorem KA_at : ∀ i < 64, KA[i]? = some (.int .u32 (tn (KF i))) := by
  intro i hi
  have h : ∀ i < 64, (KL[i]?).map (fun n : Nat => (n : Int)) = some (tn (KF i)) := by decide +kernel
  have := h i hi
  rw [KA, List.getElem?_toArray, List.getElem?_map]
  cases hk : KL[i]? with
  | none => rw [hk] at this; cases this
  | some n => rw [hk] at this; simp at this; simp [this]

set_option maxRecDepth 100000 in
set_option maxHeartbeats 4000000 in
theorem block_fn (V : Array Value) (v : Nat → BitVec 32) (B : List UInt8) (w : World) (hB : B.length = 64) (hv : ∀ i < 8, V[i]? = some (.int .u32 (tn (v i)))) :
    Calls Tryz.prog 136 #[.agg V, .string ⟨B.toArray⟩] w fun e w' =>
      e = .returned (.agg #[.int .u32 (tn (v 0 + (rounds KF (sched (cOf B)) ⟨v 0, v 1, v 2, v 3, v 4, v 5, v 6, v 7⟩ 64).a)), .int .u32 (tn (v 1 + (rounds KF (sched (cOf B)) ⟨v 0, v 1, v 2, v 3, v 4, v 5, v 6, v 7⟩ 64).b)),
        .int .u32 (tn (v 2 + (rounds KF (sched (cOf B)) ⟨v 0, v 1, v 2, v 3, v 4, v 5, v 6, v 7⟩ 64).c)), .int .u32 (tn (v 3 + (rounds KF (sched (cOf B)) ⟨v 0, v 1, v 2, v 3, v 4, v 5, v 6, v 7⟩ 64).d)),
        .int .u32 (tn (v 4 + (rounds KF (sched (cOf B)) ⟨v 0, v 1, v 2, v 3, v 4, v 5, v 6, v 7⟩ 64).e)), .int .u32 (tn (v 5 + (rounds KF (sched (cOf B)) ⟨v 0, v 1, v 2, v 3, v 4, v 5, v 6, v 7⟩ 64).f)),
        .int .u32 (tn (v 6 + (rounds KF (sched (cOf B)) ⟨v 0, v 1, v 2, v 3, v 4, v 5, v 6, v 7⟩ 64).g)), .int .u32 (tn (v 7 + (rounds KF (sched (cOf B)) ⟨v 0, v 1, v 2, v 3, v 4, v 5, v 6, v 7⟩ 64).h))]) ∧ Below w.heap.size w w' := by
  have HV := Lib.hid hv
  have HBl := Lib.hid hB
  clear hv hB
  obtain ⟨c, hc⟩ : ∃ c, cOf B = c := ⟨_, rfl⟩
  have HI := Lib.hid (fun (i : Nat) (x : Int) (hx : x = (i : Int)) (hi : i < 64) (w : World) => hc ▸ run_indexB B i x hx (by rw [HBl.out]; exact hi) w)
  rw [hc]
  clear hc
  go_enter Tryz.func136, Tryz.ntmps136
  go_wp2
  go_loopw [6] (fun i wr => ∃ k : Nat, ∃ R : Array Value, k ≤ 16 ∧ i = .int .i64 k ∧ R.size = 64 ∧ Hid (∀ j < k, R[j]? = some (.int .u32 (tn (sched c j)))) ∧ Lai w.heap.size V R wr ∧ Below w.heap.size w wr)
     (fun i _ => 16 - (intOf i).toNat)
  case atStart => exact ⟨0, _, by omega, rfl, rfl, Lib.hid (fun j hj => absurd hj (Nat.not_lt_zero j)), lai_start w V _ _ rfl, below3 _ _ _ _⟩
  case round =>
    obtain ⟨k0, R, hk0, rfl, hR, HR, hL, hbe⟩ := hrel
    by_cases hlt0 : k0 < 16
    · have b0 := HI.out (4*k0) (4 * (k0:Int)) (by omega) (by omega)
      have b1 := HI.out (4*k0+1) (4 * (k0:Int) + 1) (by omega) (by omega)
      have b2 := HI.out (4*k0+2) (4 * (k0:Int) + 2) (by omega) (by omega)
      have b3 := HI.out (4*k0+3) (4 * (k0:Int) + 3) (by omega) (by omega)
      obtain ⟨u, hu⟩ : ∃ u, R[k0]? = some u := ⟨R[k0], by simp⟩
      have r0 := (hL.cellR k0).trans hu
      clear hu
      have r1 := (hL.frR k0)
      obtain ⟨i0, j0, l0⟩ := idx (4 * (k0:Int)) (4*k0) (by omega) (by omega)
      obtain ⟨i1, j1, l1⟩ := idx (4 * (k0:Int) + 1) (4*k0+1) (by omega) (by omega)
      obtain ⟨i2, j2, l2⟩ := idx (4 * (k0:Int) + 2) (4*k0+2) (by omega) (by omega)
      obtain ⟨i3, j3, l3⟩ := idx (4 * (k0:Int) + 3) (4*k0+3) (by omega) (by omega)
      have m4 : (k0:Int) < 64 := by omega
      have m5 : 0 ≤ (k0:Int) := by omega
      go_wp2
      go_still_tail 31, (by kernel_rfl)
      change wpList _ _ _ _ _ wr.drew
      clear i0 j0 l0 i1 j1 l1 i2 j2 l2 i3 j3 l3 b0 b1 b2 b3
      go_wp2
      go_roundw
      case rel =>
        rw [word0_eq, ← sched_lo c k0 hlt0]
        exact ⟨k0 + 1, R.setIfInBounds k0 _, by omega, by go_num, by simpa using hR, Lib.hid (filled hR (by omega) HR.out), (hL.store k0 _).drew, (hbe.setCell (by show w.heap.size ≤ w.heap.size + 1 + 1; omega) _).drew⟩
      case measure => simp [intOf]; omega
    · have ek : Hid (k0 = 16) := Lib.hid (by omega)
      go_wp2
      go_loopw [7, 8, 9] (fun i _ _ wr => ∃ k : Nat, ∃ R : Array Value, 16 ≤ k ∧ k ≤ 64 ∧ i = .int .i64 k ∧ R.size = 64 ∧ Hid (∀ j < k, R[j]? = some (.int .u32 (tn (sched c j)))) ∧ Lai w.heap.size V R wr ∧ Below w.heap.size w wr)
         (fun i _ _ _ => 64 - (intOf i).toNat)
      case atStart => exact ⟨16, R, by omega, by omega, rfl, hR, ek.out ▸ HR, hL, hbe⟩
      case round =>
        clear HR hL hbe hR
        obtain ⟨k, R, hk1, hk2, rfl, hR, HR, hL, hbe⟩ := hrel
        by_cases hlt : k < 64
        · have r15 := (hL.cellR (k-15)).trans (HR.out (k-15) (by omega))
          obtain ⟨i1, j1, l1⟩ := idx ((k:Int) - 15) (k-15) (by omega) (by omega)
          have m1 : ((k:Int) - 15) < 64 := by omega
          have m4 : (k:Int) < 64 := by omega
          have m5 : 0 ≤ (k:Int) := by omega
          go_wp2
          go_quiet ((go_at_call 163; exact Calls.quiet_of (rt_int _ _ _ (by decide) (by decide))))
          have hL2 := hL.drewN nq
          have hbe2 := Below_drewN hbe nq
          clear hL hbe r15 i1 j1 l1 m1
          generalize wr.drewN nq = wq at *
          have r2 := (hL2.cellR (k-2)).trans (HR.out (k-2) (by omega))
          obtain ⟨i1, j1, l1⟩ := idx ((k:Int) - 2) (k-2) (by omega) (by omega)
          have m1 : ((k:Int) - 2) < 64 := by omega
          go_wp2
          go_quiet ((go_at_call 163; exact Calls.quiet_of (rt_int _ _ _ (by decide) (by decide))))
          have hL3 := hL2.drewN nq
          have hbe3 := Below_drewN hbe2 nq
          clear hL2 hbe2 r2 i1 j1 l1 m1
          generalize wq.drewN nq = wp at *
          have r16 := (hL3.cellR (k-16)).trans (HR.out (k-16) (by omega))
          have r7 := (hL3.cellR (k-7)).trans (HR.out (k-7) (by omega))
          obtain ⟨u, hu⟩ : ∃ u, R[k]? = some u := ⟨R[k], by simp⟩
          have r0 := (hL3.cellR k).trans hu
          clear hu
          have r1 := (hL3.frR k)
          obtain ⟨i2, j2, l2⟩ := idx ((k:Int) - 16) (k-16) (by omega) (by omega)
          obtain ⟨i3, j3, l3⟩ := idx ((k:Int) - 7) (k-7) (by omega) (by omega)
          have m2 : ((k:Int) - 16) < 64 := by omega
          have m3 : ((k:Int) - 7) < 64 := by omega
          have n2 : (16 : Int) ≤ (k:Int) := by omega
          have n3 : (7 : Int) ≤ (k:Int) := by omega
          go_wp2
          go_still_tail 15, (by kernel_rfl)
          change wpList _ _ _ _ _ wp.drew
          clear i2 j2 l2 i3 j3 l3 m2 m3
          go_wp2
          go_roundw
          case rel =>
            simp only [shr3, shr10, bits_xor_u32, x4]
            rw [ref_sched c k hk1]
            exact ⟨k + 1, R.setIfInBounds k _, by omega, by omega, by go_num, by simpa using hR, Lib.hid (filled hR hlt HR.out), (hL3.store k _).drew, (hbe3.setCell (by show w.heap.size ≤ w.heap.size + 1 + 1; omega) _).drew⟩
          case measure => simp [intOf]; omega
        · have ek2 : Hid (k = 64) := Lib.hid (by omega)
          go_wp2_with fail
          refine (const_any wr).mono ?_
          rintro e wa ⟨rfl, hBa⟩
          have hLa := hL.below hBa hL.size
          have hbea : Below w.heap.size w wa := hbe.trans (hBa.mono hbe.size)
          clear hL hbe
          have hBw : Below wa.heap.size wa ((wa.alloc (.cells zero60 205)).setCells wa.heap.size 0 KA.toList) := Below_setCells ((Below.refl _ _).alloc (Nat.le_refl _) _) (Nat.le_refl _) 0 _
          have hKb := stored60 wa
          obtain ⟨wb, hwb⟩ : ∃ wb, (wa.alloc (.cells zero60 205)).setCells wa.heap.size 0 KA.toList = wb := ⟨_, rfl⟩
          rw [hwb] at hBw hKb
          have HWB := Lib.hid hwb
          have hLb := hLa.below hBw hLa.size
          have hbeb : Below w.heap.size w wb := hbea.trans (hBw.mono hbea.size)
          have HKb := Lib.hid hKb
          have v0 := (hLb.cellV 0).trans (HV.out 0 (by omega))
          have v1 := (hLb.cellV 1).trans (HV.out 1 (by omega))
          have v2 := (hLb.cellV 2).trans (HV.out 2 (by omega))
          have v3 := (hLb.cellV 3).trans (HV.out 3 (by omega))
          clear hwb hKb
          go_wp2_with (first
            | (refine wpList_alloc60 rfl rfl (by kernel_rfl) ?_)
            | (refine wpList_store_mid rfl 205 (.tmp 10) (.tmp 110) rfl wa.heap.size 0 KA rfl rfl (there60 wa) hi60 KA_one ?_; rw [HWB.out]))
          go_quiet (fail)
          clear v0 v1 v2 v3
          have hL2 := hLb.drewN nq
          have hbe2 := Below_drewN hbeb nq
          have HK2 : Hid ((wb.drewN nq).heap[wa.heap.size]? = some (.cells KA 205 (0, 0))) := HKb
          clear hLb hbeb HKb
          generalize wb.drewN nq = wc at *
          have v4 := (hL2.cellV 4).trans (HV.out 4 (by omega))
          have v5 := (hL2.cellV 5).trans (HV.out 5 (by omega))
          have v6 := (hL2.cellV 6).trans (HV.out 6 (by omega))
          have v7 := (hL2.cellV 7).trans (HV.out 7 (by omega))
          go_wp2
          go_quiet (fail)
          clear v4 v5 v6 v7
          have hL3 := hL2.drewN nq
          have hbe3 := Below_drewN hbe2 nq
          have HK3 : Hid ((wc.drewN nq).heap[wa.heap.size]? = some (.cells KA 205 (0, 0))) := HK2
          clear hL2 hbe2 HK2
          generalize wc.drewN nq = wd at *
          go_wp2
          go_loopw [11, 12, 13, 14, 15, 16, 17, 18, 19, 20, 21] (fun a b c' d e f g h i _ _ wr => ∃ j : Nat, j ≤ 64 ∧ i = .int .i64 j ∧ ∃ s : St, Hid (s = rounds KF (sched c) ⟨v 0, v 1, v 2, v 3, v 4, v 5, v 6, v 7⟩ j) ∧
              a = .int .u32 (tn s.a) ∧ b = .int .u32 (tn s.b) ∧ c' = .int .u32 (tn s.c) ∧ d = .int .u32 (tn s.d) ∧ e = .int .u32 (tn s.e) ∧ f = .int .u32 (tn s.f) ∧ g = .int .u32 (tn s.g) ∧ h = .int .u32 (tn s.h) ∧
              Hid (wr.heap[wa.heap.size]? = some (.cells KA 205 (0, 0))) ∧ Lai w.heap.size V R wr ∧ Below w.heap.size w wr)
            (fun _ _ _ _ _ _ _ _ i _ _ _ => 64 - (intOf i).toNat)
          case atStart => exact ⟨0, by omega, rfl, _, Lib.hid rfl, rfl, rfl, rfl, rfl, rfl, rfl, rfl, rfl, HK3, hL3, hbe3⟩
          case round =>
            clear hL3 hbe3 HK3
            obtain ⟨j, hj, rfl, s, Hs, rfl, rfl, rfl, rfl, rfl, rfl, rfl, rfl, HK, hL, hbe⟩ := hrel
            by_cases hjl : j < 64
            · have hx := (hL.cellR j).trans (HR.out j (by have := ek2.out; omega))
              have kc : wr.cell? ⟨wa.heap.size, j, none⟩ = some (.int .u32 (tn (KF j))) := by rw [cell_of_row _ _ _ _ 205 _ HK.out]; exact KA_at j hjl
              have m4 : (j:Int) < 64 := by omega
              have m5 : 0 ≤ (j:Int) := by omega
              go_wp2
              go_quiet ((go_at_call 163; exact Calls.quiet_of (rt_int _ _ _ (by decide) (by decide))))
              have hL2 := hL.drewN nq
              have hbe2 := Below_drewN hbe nq
              have HK2 : Hid ((wr.drewN nq).heap[wa.heap.size]? = some (.cells KA 205 (0, 0))) := HK
              clear hL hbe HK hx kc
              generalize wr.drewN nq = wq at *
              go_wp2_with (go_at_call 163; refine (rt_int _ _ _ (by decide) (by decide)).mono ?_; rintro e w' ⟨rfl, nn, rfl⟩)
              go_roundw
              case rel =>
                simp only [not_if, bits_and_u32, bits_or_u32, bits_xor_u32, x5, add_u32]
                exact ⟨j + 1, by omega, by go_num, stepS s (KF j) (sched c j), Lib.hid (by rw [Hs.out]; rfl), by simp only [stepS, xOf, yOf, turnedBy3], rfl, rfl, rfl, by simp only [stepS, xOf, turnedBy3], rfl, rfl, rfl, HK2, hL2.drewN _, Below_drewN hbe2 _⟩
              case measure => simp [intOf]; omega
            · have ej : Hid (j = 64) := Lib.hid (by omega)
              have v0 := (hL.cellV 0).trans (HV.out 0 (by omega))
              have v1 := (hL.cellV 1).trans (HV.out 1 (by omega))
              have v2 := (hL.cellV 2).trans (HV.out 2 (by omega))
              have v3 := (hL.cellV 3).trans (HV.out 3 (by omega))
              have v4 := (hL.cellV 4).trans (HV.out 4 (by omega))
              have v5 := (hL.cellV 5).trans (HV.out 5 (by omega))
              have v6 := (hL.cellV 6).trans (HV.out 6 (by omega))
              have v7 := (hL.cellV 7).trans (HV.out 7 (by omega))
              obtain ⟨⟨z0, o0⟩, f0⟩ := hL.outAt 0 (by omega)
              obtain ⟨⟨z1, o1⟩, f1⟩ := hL.outAt 1 (by omega)
              obtain ⟨⟨z2, o2⟩, f2⟩ := hL.outAt 2 (by omega)
              obtain ⟨⟨z3, o3⟩, f3⟩ := hL.outAt 3 (by omega)
              obtain ⟨⟨z4, o4⟩, f4⟩ := hL.outAt 4 (by omega)
              obtain ⟨⟨z5, o5⟩, f5⟩ := hL.outAt 5 (by omega)
              obtain ⟨⟨z6, o6⟩, f6⟩ := hL.outAt 6 (by omega)
              obtain ⟨⟨z7, o7⟩, f7⟩ := hL.outAt 7 (by omega)
              have HS : Hid (rounds KF (sched c) ⟨v 0, v 1, v 2, v 3, v 4, v 5, v 6, v 7⟩ 64 = s) := Lib.hid (by rw [Hs.out, ej.out])
              go_wp2
              rw [HS.out]
              simp only [add_u32]
              refine bodyPost_ret (v := .agg #[.int .u32 (tn (v 0 + s.a)), .int .u32 (tn (v 1 + s.b)), .int .u32 (tn (v 2 + s.c)), .int .u32 (tn (v 3 + s.d)), .int .u32 (tn (v 4 + s.e)), .int .u32 (tn (v 5 + s.f)), .int .u32 (tn (v 6 + s.g)), .int .u32 (tn (v 7 + s.h))]) ?_ rfl ⟨rfl, ?_⟩
              · simp [results, Tryz.results136, go_sem, *]
              · have hN : w.heap.size ≤ w.heap.size + 1 := by omega
                exact (((((((hbe.setCell hN _).setCell hN _).setCell hN _).setCell hN _).setCell hN _).setCell hN _).setCell hN _).setCell hN _
end Go.Proofs.YtmnklonoelpidaaGreatDoor
