/- End, New; a reader that is none: all that is asked of a reader. -/
import Derived.Test.YtlhmmplkdjibkaaGreatDoorJ8
import Derived.Test.YtlhmmplkdjibkaaGreatDoorJ2
import Derived.Test.YtlhmmplkdjibkaaGreatDoorJ1
import Derived.Test.YtlhmmplkdjibkaaGreatDoorJ5
import Derived.Test.YtlhmmplkdjibkaaGreatDoorJ7
namespace Go.Proofs.YtlhmmplkdjibkaaGreatDoor
open Go.RowKit Go.Extern.Stop Go.Stop Go.Extern

theorem ri_noIsE (v : Value) (xT : TypeId) (w : World) : (Instr.typeAssert (.iface 32 v) xT 214 true).run Tryz.prog w = .ok (.tuple #[.nilIface, .bool false]) w := run_typeAssert_lacksB Tryz.underlying214 (by kernel_rfl) (by kernel_rfl) v xT w
theorem ri_noUnE (v : Value) (xT : TypeId) (w : World) : (Instr.typeAssert (.iface 32 v) xT 210 true).run Tryz.prog w = .ok (.tuple #[.nilIface, .bool false]) w := run_typeAssert_lacksB Tryz.underlying210 (by kernel_rfl) (by kernel_rfl) v xT w
theorem ri_noUsE (v : Value) (xT : TypeId) (w : World) : (Instr.typeAssert (.iface 32 v) xT 211 true).run Tryz.prog w = .ok (.tuple #[.nilIface, .bool false]) w := run_typeAssert_lacksB Tryz.underlying211 (by kernel_rfl) (by kernel_rfl) v xT w
theorem ri_unlike (c d : Int) (hcd : (c == d) = false) (w : World) : (binOp .eql 38 (.iface 32 (.int .i64 c)) (.iface 32 (.int .i64 d))).run Tryz.prog w = .ok (.bool false) w := by
  obtain ⟨i, hi, hc⟩ := Option.map_eq_some_iff.1 ri_comp
  have h : ∀ k : Nat, (Op.equalIn (k + 2) 38 (.iface 32 (.int .i64 c)) (.iface 32 (.int .i64 d))).run Tryz.prog w = .ok false w := fun k => by
    simp [Op.equalIn, run_underlying Tryz.underlying38, run_underlying Tryz.underlying32, typeInfo, hi, hc, hcd]
  simp only [binOp]
  simp [Op.equal, Op.maxDepth, h 9998]

set_option maxHeartbeats 4000000 in
theorem is_unlike (f : Nat) (c d : Int) (hcd : (c == d) = false) (w : World) (h1 : w.cell? ⟨f, 0, none⟩ = some (.int .i64 c)) :
    Calls Tryz.prog 35 #[.iface 85 (.pointer (some ⟨f, 0, none⟩)), .iface 32 (.int .i64 d)] w fun e w' => e = .returned (.bool false) ∧ w' = w := by
  have h8 := @run_callFunc_extern Tryz.prog 77 _ ReflectliteType.typeOf Tryz.func77 (by kernel_rfl) (by kernel_rfl) (by kernel_rfl) (by kernel_rfl)
  have h32 := @run_callFunc_extern Tryz.prog 214 _ (ReflectliteType.method fun t => do Rtype.noPackHeld "Comparable" t; pure (.bool (← typeInfo t).comparable)) Tryz.func214 (by kernel_rfl) (by kernel_rfl) (by kernel_rfl) (by kernel_rfl)
  have tT := ri_typeOf
  have cT : ∀ w, ((ReflectliteType.method fun t => do Rtype.noPackHeld "Comparable" t; pure (.bool (← typeInfo t).comparable)) #[.agg #[.pointer (some ⟨4, 32, none⟩)]]).run Tryz.prog w = .ok (.bool true) w := fun w => by kernel_rfl
  generalize (ReflectliteType.method fun t => do Rtype.noPackHeld "Comparable" t; pure (.bool (← typeInfo t).comparable)) = g at h32 cT
  have mR := ri_mComp
  have nW := ri_noIs
  have uW := ri_unwrap
  have mU := ri_mUnwrap
  have nE1 := ri_noIsE
  have nE2 := ri_noUnE
  have nE3 := ri_noUsE
  have heq := ri_unlike c d hcd w
  have hty := run_eql_iface_types (P := Tryz.prog) 85 32 (.pointer (some ⟨f, 0, none⟩)) (.int .i64 d) Tryz.underlying38 (by decide) w
  clear hcd
  go_enter Tryz.func35, Tryz.ntmps35
  go_wp2
  refine wp_loop_rounds 2 ?_
  rw [rounds_succ]
  go_wp2
  rw [rounds_succ]
  go_wp2
  go_ret
  exact ⟨rfl, rfl⟩

set_option maxRecDepth 100000 in
theorem qlist_any (b : Nat) (S : List UInt8) (a m : Nat) (w : World) (hR : RQ b S a m w) (hG : GlobU w) (hS : S.length ≤ 1000000) (ha : a ≤ S.length) :
    Calls Tryz.prog 145 #[.pointer (some ⟨b, 0, none⟩)] w fun e w' => ∃ v, e = .returned (.tuple #[.int .i64 ((takeP (S.drop a) m 3).n : Int), v]) ∧ ErrV w.heap.size (takeP (S.drop a) m 3).c a v w' ∧ RQ b S (a + (takeP (S.drop a) m 3).m) m w' ∧ Only b w w' := by
  have HC0 := qbegun_any b S a m 3 w hR hG hS ha (by decide)
  rw [← takeP_len (S.drop a) m 3 (by decide) (by decide) (by decide)] at HC0
  have HC := Lib.hid HC0
  clear HC0 hR hG hS ha
  generalize takeP (S.drop a) m 3 = P at *
  go_enter Tryz.func145, Tryz.ntmps145
  go_wp2_with (go_at_call 161; refine HC.out.mono ?_; rintro e w1 ⟨v, rfl, h1, h2, h3⟩)
  refine bodyPost_ret (v := .tuple #[.int .i64 (P.n : Int), v]) (by simp [results, Tryz.results145, go_sem]) rfl ⟨v, rfl, h1, h2, h3⟩

set_option maxRecDepth 100000 in
theorem qmap_any (b : Nat) (S : List UInt8) (a m : Nat) (w : World) (hR : RQ b S a m w) (hG : GlobU w) (hS : S.length ≤ 1000000) (ha : a ≤ S.length) :
    Calls Tryz.prog 112 #[.pointer (some ⟨b, 0, none⟩)] w fun e w' => ∃ v, e = .returned (.tuple #[.int .i64 ((takeP (S.drop a) m 4).n : Int), v]) ∧ ErrV w.heap.size (takeP (S.drop a) m 4).c a v w' ∧ RQ b S (a + (takeP (S.drop a) m 4).m) m w' ∧ Only b w w' := by
  have HC0 := qbegun_any b S a m 4 w hR hG hS ha (by decide)
  rw [← takeP_len (S.drop a) m 4 (by decide) (by decide) (by decide)] at HC0
  have HC := Lib.hid HC0
  clear HC0 hR hG hS ha
  generalize takeP (S.drop a) m 4 = P at *
  go_enter Tryz.func112, Tryz.ntmps112
  go_wp2_with (go_at_call 161; refine HC.out.mono ?_; rintro e w1 ⟨v, rfl, h1, h2, h3⟩)
  refine bodyPost_ret (v := .tuple #[.int .i64 (P.n : Int), v]) (by simp [results, Tryz.results112, go_sem]) rfl ⟨v, rfl, h1, h2, h3⟩

set_option maxRecDepth 100000 in
theorem qbin_any (b : Nat) (S : List UInt8) (a m : Nat) (w : World) (hR : RQ b S a m w) (hG : GlobU w) (hS : S.length ≤ 1000000) (ha : a ≤ S.length) :
    Calls Tryz.prog 147 #[.pointer (some ⟨b, 0, none⟩)] w fun e w' => ∃ v, e = .returned (.tuple #[.string ⟨(takeP (S.drop a) m 1).t.toArray⟩, v]) ∧ ErrV w.heap.size (takeP (S.drop a) m 1).c a v w' ∧ RQ b S (a + (takeP (S.drop a) m 1).m) m w' ∧ Only b w w' := by
  have HC0 := qcounted_any b S a m 1 w hR hG hS ha (.inl rfl)
  have HC := Lib.hid HC0
  clear HC0 hR hG hS ha
  generalize takeP (S.drop a) m 1 = P at *
  go_enter Tryz.func147, Tryz.ntmps147
  go_wp2_with (go_at_call 162; refine HC.out.mono ?_; rintro e w1 ⟨v, rfl, h1, h2, h3⟩)
  refine bodyPost_ret (v := .tuple #[.string ⟨P.t.toArray⟩, v]) (by simp [results, Tryz.results147, go_sem]) rfl ⟨v, rfl, h1, h2, h3⟩

set_option maxRecDepth 100000 in
theorem qstr_any (b : Nat) (S : List UInt8) (a m : Nat) (w : World) (hR : RQ b S a m w) (hG : GlobU w) (hS : S.length ≤ 1000000) (ha : a ≤ S.length) :
    Calls Tryz.prog 114 #[.pointer (some ⟨b, 0, none⟩)] w fun e w' => ∃ v, e = .returned (.tuple #[.string ⟨(takeP (S.drop a) m 2).t.toArray⟩, v]) ∧ ErrV w.heap.size (takeP (S.drop a) m 2).c a v w' ∧ RQ b S (a + (takeP (S.drop a) m 2).m) m w' ∧ Only b w w' := by
  have HC0 := qcounted_any b S a m 2 w hR hG hS ha (.inr rfl)
  have HC := Lib.hid HC0
  clear HC0 hR hG hS ha
  generalize takeP (S.drop a) m 2 = P at *
  go_enter Tryz.func114, Tryz.ntmps114
  go_wp2_with (go_at_call 162; refine HC.out.mono ?_; rintro e w1 ⟨v, rfl, h1, h2, h3⟩)
  refine bodyPost_ret (v := .tuple #[.string ⟨P.t.toArray⟩, v]) (by simp [results, Tryz.results114, go_sem]) rfl ⟨v, rfl, h1, h2, h3⟩

set_option maxRecDepth 100000 in
theorem end1_any (A : Nat) (S : List UInt8) (a m : Nat) (w : World) (hR : RAt A S a m w) (hS : S.length ≤ 1000000) (ha : a ≤ S.length) :
    Calls Tryz.prog 121 #[.pointer (some ⟨A, 0, none⟩)] w (Gave (if a < S.length then 5 else 4) A w) := by
  by_cases hl : a < S.length
  · have HT := Lib.hid (qtake_ok A S a m 1 w hR hS ha (by rw [List.length_drop]; omega))
    rw [if_pos hl]
    clear hR hS ha hl
    have HG := Lib.hid (fun w => giveUp_any 5 A w)
    go_enter Tryz.func121, Tryz.ntmps121
    go_wp2_with (first | (go_at_call 122; refine HT.out.mono ?_; rintro e w1 ⟨rfl, hr, ho⟩) | (go_at_call 123; refine (HG.out _).mono ?_; rintro e w2 ⟨⟨f, hf, rfl, hfc⟩, ho2⟩))
    exact ⟨rfl, (⟨⟨f, hf, rfl, hfc⟩, ho2⟩ : Gave 5 A _ _ w2).from ho⟩
  · have HT := Lib.hid (qtake_short A S a m 1 w hR hS ha (by decide) (by rw [List.length_drop]; omega))
    rw [if_neg hl]
    clear hR hS ha hl
    go_enter Tryz.func121, Tryz.ntmps121
    go_wp2_with (go_at_call 122; refine HT.out.mono ?_; rintro e w1 ⟨⟨f, hf, rfl, hfc⟩, ho⟩)
    exact ⟨rfl, ⟨f, hf, rfl, hfc⟩, ho⟩

set_option maxRecDepth 100000 in
theorem qend_any (b : Nat) (S : List UInt8) (a m : Nat) (w : World) (hR : RQ b S a m w) (hG : GlobU w) (hS : S.length ≤ 1000000) (ha : a ≤ S.length) :
    Calls Tryz.prog 61 #[.pointer (some ⟨b, 0, none⟩)] w fun e w' => ∃ v, e = .returned v ∧ ErrV w.heap.size (if a < S.length then 5 else 0) a v w' ∧ Below w.heap.size w w' := by
  have HC0 := attempt_bad b S a m (if a < S.length then 5 else 4) 121 #[] w ent_end hR.r hG.e (fun w4 A h4 hA hRA => end1_any A S a m w4 hRA hS ha)
  by_cases hl : a < S.length
  · rw [if_pos hl] at HC0 ⊢
    have HC := Lib.hid HC0
    clear HC0 hR hG hS ha hl
    go_enter Tryz.func61, Tryz.ntmps61
    go_wp2_with (first | (go_at_call 120; refine HC.out.mono ?_; rintro e w1 ⟨g, rfl, hm⟩) | (go_at_call 35; refine (is_unlike g 5 4 (by decide) _ ((lit_cell hm.h 0).trans rfl)).mono ?_; rintro e w2 ⟨rfl, rfl⟩))
    refine bodyPost_ret (v := .iface 85 (.pointer (some ⟨g, 0, none⟩))) (by simp [results, Tryz.results61, go_sem]) rfl ⟨_, rfl, errV_made (c := 5) hm (Nat.le_refl _) (by decide) rfl, hm.b⟩
  · rw [if_neg hl] at HC0 ⊢
    have HC := Lib.hid HC0
    clear HC0 hR hG hS ha hl
    go_enter Tryz.func61, Tryz.ntmps61
    go_wp2_with (first | (go_at_call 120; refine HC.out.mono ?_; rintro e w1 ⟨g, rfl, hm⟩) | (go_at_call 35; refine (is_fault g 4 _ ((lit_cell hm.h 0).trans rfl)).mono ?_; rintro e w2 ⟨rfl, rfl⟩))
    refine bodyPost_ret (v := .nilIface) (by simp [results, Tryz.results61, go_sem]) rfl ⟨_, rfl, ?_, hm.b⟩
    rw [ErrV, if_pos rfl]

set_option maxRecDepth 100000 in
theorem qnew_any (S : List UInt8) (i : Int) (w : World) (h1 : -9223372036854775808 ≤ i) (h2 : i ≤ 9223372036854775807) :
    Calls Tryz.prog 59 #[.string ⟨S.toArray⟩, .int .i64 i] w fun e w' => ∃ b, w.heap.size ≤ b ∧ e = .returned (.pointer (some ⟨b, 0, none⟩)) ∧ RQ b S 0 (max i 0).toNat w' ∧ Below w.heap.size w w' := by
  by_cases hz : i = 0
  · subst hz
    have HR := Lib.hid (heap_alloc_new w (.cells #[.string ⟨S.toArray⟩, .int .i64 0, .int .i64 0] 186))
    clear h1 h2
    go_enter Tryz.func59, Tryz.ntmps59
    go_wp2
    go_ret
    exact ⟨_, Nat.le_refl _, rfl, ⟨HR.out, by decide⟩, by0 _ _⟩
  by_cases hi : i < 0
  · have e : (max i 0).toNat = 0 := by omega
    rw [e]
    have HR := Lib.hid (heap_alloc_new w (.cells #[.string ⟨S.toArray⟩, .int .i64 0, .int .i64 0] 186))
    have hmx : max i 0 = 0 := by omega
    clear e hz h1 h2
    go_enter Tryz.func59, Tryz.ntmps59
    go_wp2
    all_goals go_ret
    all_goals first | exact ⟨_, Nat.le_refl _, rfl, ⟨HR.out, Nat.zero_lt_succ _⟩, by0 _ _⟩ | (exfalso; omega)
  · obtain ⟨m, rfl⟩ : ∃ m : Nat, i = (m : Int) := ⟨i.toNat, by omega⟩
    have e : (max (m : Int) 0).toNat = m := by omega
    rw [e]
    have HM := Lib.hid (show m < 9223372036854775808 by omega)
    have HR := Lib.hid (heap_alloc_new w (.cells #[.string ⟨S.toArray⟩, .int .i64 0, .int .i64 (m : Int)] 186))
    have hp : (0 : Int) < (m : Int) := by omega
    clear e h1 h2 hz hi
    go_enter Tryz.func59, Tryz.ntmps59
    go_wp2
    all_goals go_ret
    all_goals first | exact ⟨_, Nat.le_refl _, rfl, ⟨HR.out, HM.out⟩, by0 _ _⟩ | (exfalso; omega)

theorem reader_c : ReaderC GlobU RQ where
  ge := fun h => h.e
  gb := fun h hb => h.next hb
  lt := fun h => lit_lt h.r
  keep := fun h ho hne => ⟨(ho.block _ (lit_lt h.r) hne.symm).trans h.r, h.m⟩
  new := fun S i w _ _ h1 h2 => qnew_any S i w h1 h2
  num := fun b S a m w h g hS ha => by
    have k := qnum_any b S a m w h g hS ha
    rw [← takeP_numQ (S.drop a) m] at k
    exact k
  bin := qbin_any
  str := qstr_any
  list := qlist_any
  map := qmap_any
  fin := qend_any

end Go.Proofs.YtlhmmplkdjibkaaGreatDoor
/- What is laid is taken: takeP of a thing laid by hand. -/
namespace Go.Proofs.YtlhmmplkdjibkaaGreatDoor
open Go.RowKit

theorem beN_be (n : Nat) : ∀ (k m : Nat), beN m (be n k) = m * 256 ^ k + n % 256 ^ k
  | 0, m => by simp [be, beN, Nat.mod_one]
  | k + 1, m => by
    rw [be, beN, beN_be n k, UInt8.toNat_ofNat', Nat.pow_succ 256 k, Nat.mod_mul (x := n) (a := 256 ^ k) (b := 256), Nat.add_mul]
    have e1 : 256 * m * 256 ^ k = m * (256 ^ k * 256) := by rw [Nat.mul_comm (256 ^ k) 256, ← Nat.mul_assoc, Nat.mul_comm 256 m, Nat.mul_assoc]
    have e2 : n / 256 ^ k % 2 ^ 8 * 256 ^ k = 256 ^ k * (n / 256 ^ k % 256) := Nat.mul_comm _ _
    rw [e1, e2]
    omega
theorem beN_be0 (n k : Nat) (h : n < 256 ^ k) : beN 0 (be n k) = n := by rw [beN_be, Nat.zero_mul, Nat.zero_add, Nat.mod_eq_of_lt h]
theorem takeP_eq {s most z n0 least : Nat} {b : UInt8} {r : List UInt8} (h : rowU s b.toNat = ((z : Int), n0, least)) :
    takeP (b :: r) most s = if r.length < z then ⟨0, [], 4, 0⟩ else if beN n0 (r.take z) < least then ⟨0, [], 5, 0⟩ else if s ≠ 0 ∧ most < beN n0 (r.take z) then ⟨0, [], 3, 0⟩
      else if s = 1 ∨ s = 2 then (if r.length - z < beN n0 (r.take z) then ⟨0, [], 4, 0⟩ else ⟨beN n0 (r.take z), (r.drop z).take (beN n0 (r.take z)), 0, 1 + z + beN n0 (r.take z)⟩) else ⟨beN n0 (r.take z), [], 0, 1 + z⟩ := by
  rw [takeP, h]
  simp only [Int.toNat_natCast]
  rw [if_neg (by omega)]
theorem takeP_num {s most z n0 least n N : Nat} {b : UInt8} (R : List UInt8) (h : rowU s b.toNat = ((z : Int), n0, least)) (hs : ¬ (s = 1 ∨ s = 2)) (hN : beN n0 (be n z) = N) (hl : least ≤ N) (hm : s = 0 ∨ N ≤ most) :
    takeP (b :: (be n z ++ R)) most s = ⟨N, [], 0, 1 + z⟩ := by
  have hlen : (be n z).length = z := be_length n z
  rw [takeP_eq h, if_neg (by rw [List.length_append]; omega), List.take_left' hlen, hN, if_neg (by omega), if_neg (by omega), if_neg hs]
theorem takeP_txt {s most z n0 least n : Nat} {b : UInt8} (T R : List UInt8) (h : rowU s b.toNat = ((z : Int), n0, least)) (hs : s = 1 ∨ s = 2) (hN : beN n0 (be n z) = T.length) (hl : least ≤ T.length) (hm : T.length ≤ most) :
    takeP (b :: (be n z ++ (T ++ R))) most s = ⟨T.length, T, 0, 1 + z + T.length⟩ := by
  have hlen : (be n z).length = z := be_length n z
  rw [takeP_eq h, if_neg (by rw [List.length_append]; omega), List.take_left' hlen, hN, if_neg (by omega), if_neg (by omega), if_pos hs, if_neg (by rw [List.length_append, List.length_append]; omega), List.drop_left' hlen, List.take_left' rfl]
theorem rowU_in2 (n : Nat) (h : n < 32) : rowU 2 (UInt8.ofNat (160 + n)).toNat = (((0 : Nat) : Int), n, 0) := by
  rw [UInt8.toNat_ofNat', show (160 + n) % 2 ^ 8 = 160 + n by omega, rowU, if_neg (by decide), if_neg (by decide), if_pos rfl, if_pos (by omega)]
  simp
theorem rowU_in3 (n : Nat) (h : n < 16) : rowU 3 (UInt8.ofNat (144 + n)).toNat = (((0 : Nat) : Int), n, 0) := by
  rw [UInt8.toNat_ofNat', show (144 + n) % 2 ^ 8 = 144 + n by omega, rowU, if_neg (by decide), if_neg (by decide), if_neg (by decide), if_pos rfl, if_pos (by omega)]
  simp
theorem rowU_in4 (n : Nat) (h : n < 16) : rowU 4 (UInt8.ofNat (128 + n)).toNat = (((0 : Nat) : Int), n, 0) := by
  rw [UInt8.toNat_ofNat', show (128 + n) % 2 ^ 8 = 128 + n by omega, rowU, if_neg (by decide), if_neg (by decide), if_neg (by decide), if_neg (by decide), if_pos (by omega)]
  simp
theorem rowU_in0 (n : Nat) (h : n < 128) : rowU 0 (UInt8.ofNat n).toNat = (((0 : Nat) : Int), n, 0) := by
  rw [UInt8.toNat_ofNat', show n % 2 ^ 8 = n by omega, rowU, if_pos rfl, if_pos h]
  rfl

/-- a number comes back -/
theorem back0 (n : Nat) (R : List UInt8) (hn : n < 18446744073709551616) : takeP (laidQ 0 n [] ++ R) 65535 0 = ⟨n, [], 0, (laidQ 0 n []).length⟩ := by
  rw [laidQ, if_pos rfl, numP]
  by_cases h0 : n < 128
  · rw [if_pos h0]
    exact takeP_num (n := 0) (z := 0) R (rowU_in0 n h0) (by decide) rfl (by omega) (.inl rfl)
  · rw [if_neg h0]
    by_cases h1 : n < 256
    · rw [if_pos h1, List.cons_append, takeP_num (least := 128) R rfl (by decide) (beN_be0 n 1 (by omega)) (by omega) (.inl rfl), List.length_cons, be_length]
    · rw [if_neg h1]
      by_cases h2 : n < 65536
      · rw [if_pos h2, List.cons_append, takeP_num (least := 256) R rfl (by decide) (beN_be0 n 2 (by omega)) (by omega) (.inl rfl), List.length_cons, be_length]
      · rw [if_neg h2]
        by_cases h3 : n < 4294967296
        · rw [if_pos h3, List.cons_append, takeP_num (least := 65536) R rfl (by decide) (beN_be0 n 4 (by omega)) (by omega) (.inl rfl), List.length_cons, be_length]
        · rw [if_neg h3, List.cons_append, takeP_num (least := 4294967296) R rfl (by decide) (beN_be0 n 8 (by omega)) (by omega) (.inl rfl), List.length_cons, be_length]
/-- bytes and texts come back -/
theorem back1 (T R : List UInt8) (hT : T.length < 65536) : takeP (laidQ 1 T.length T ++ R) 65535 1 = ⟨T.length, T, 0, (laidQ 1 T.length T).length⟩ := by
  rw [laidQ, if_neg (by decide), if_pos (by decide), headP, if_pos (by decide)]
  by_cases h1 : T.length < 256
  · rw [if_pos h1, List.append_assoc, List.cons_append, takeP_txt (least := 0) T R rfl (.inl rfl) (beN_be0 _ 1 (by omega)) (by omega) (by omega)]
    simp [be_length]; omega
  · rw [if_neg h1, List.append_assoc, List.cons_append, takeP_txt (least := 256) T R rfl (.inl rfl) (beN_be0 _ 2 (by omega)) (by omega) (by omega)]
    simp [be_length]; omega
theorem back2 (T R : List UInt8) (hT : T.length < 65536) : takeP (laidQ 2 T.length T ++ R) 65535 2 = ⟨T.length, T, 0, (laidQ 2 T.length T).length⟩ := by
  rw [laidQ, if_neg (by decide), if_pos (by decide), headP, if_neg (by decide), if_pos (by decide)]
  by_cases h0 : T.length < 32
  · rw [if_pos h0, List.append_assoc]
    refine (takeP_txt (n := 0) (z := 0) (most := 65535) T R (rowU_in2 _ h0) (.inr rfl) rfl (by omega) (by omega)).trans ?_
    simp; omega
  · rw [if_neg h0]
    by_cases h1 : T.length < 256
    · rw [if_pos h1, List.append_assoc, List.cons_append, takeP_txt (least := 32) T R rfl (.inr rfl) (beN_be0 _ 1 (by omega)) (by omega) (by omega)]
      simp [be_length]; omega
    · rw [if_neg h1, List.append_assoc, List.cons_append, takeP_txt (least := 256) T R rfl (.inr rfl) (beN_be0 _ 2 (by omega)) (by omega) (by omega)]
      simp [be_length]; omega
/-- lists' and maps' beginnings come back -/
theorem back3 (n : Nat) (R : List UInt8) (hn : n < 65536) : takeP (laidQ 3 n [] ++ R) 65535 3 = ⟨n, [], 0, (laidQ 3 n []).length⟩ := by
  rw [laidQ, if_neg (by decide), if_neg (by decide), headP, if_neg (by decide), if_neg (by decide), if_pos (by decide)]
  by_cases h0 : n < 16
  · rw [if_pos h0]
    exact takeP_num (n := 0) (z := 0) R (rowU_in3 n h0) (by decide) rfl (by omega) (.inr (by omega))
  · rw [if_neg h0, List.cons_append, takeP_num (least := 16) R rfl (by decide) (beN_be0 n 2 (by omega)) (by omega) (.inr (by omega)), List.length_cons, be_length]
theorem back4 (n : Nat) (R : List UInt8) (hn : n < 65536) : takeP (laidQ 4 n [] ++ R) 65535 4 = ⟨n, [], 0, (laidQ 4 n []).length⟩ := by
  rw [laidQ, if_neg (by decide), if_neg (by decide), headP, if_neg (by decide), if_neg (by decide), if_neg (by decide)]
  by_cases h0 : n < 16
  · rw [if_pos h0]
    exact takeP_num (n := 0) (z := 0) R (rowU_in4 n h0) (by decide) rfl (by omega) (.inr (by omega))
  · rw [if_neg h0, List.cons_append, takeP_num (least := 16) R rfl (by decide) (beN_be0 n 2 (by omega)) (by omega) (.inr (by omega)), List.length_cons, be_length]
end Go.Proofs.YtlhmmplkdjibkaaGreatDoor
/- What is taken was laid: the bytes that takeP took are those of the thing laid by hand. -/
namespace Go.Proofs.YtlhmmplkdjibkaaGreatDoor
open Go.RowKit

theorem beN_split : ∀ (l : List UInt8) (m : Nat), beN m l = m * 256 ^ l.length + beN 0 l
  | [], m => by simp [beN]
  | b :: l, m => by
    rw [beN, beN_split l (256 * m + b.toNat), beN, beN_split l (256 * 0 + b.toNat), List.length_cons, Nat.pow_succ, Nat.add_mul, Nat.mul_zero, Nat.zero_add]
    have e1 : 256 * m * 256 ^ l.length = m * (256 ^ l.length * 256) := by rw [Nat.mul_comm (256 ^ l.length) 256, ← Nat.mul_assoc, Nat.mul_comm 256 m, Nat.mul_assoc]
    omega
theorem beN_lt0 (l : List UInt8) : beN 0 l < 256 ^ l.length := by have := beN_lt l 0; rwa [Nat.zero_add, Nat.one_mul] at this
theorem be_beN : ∀ (l : List UInt8) (m : Nat), be (beN m l) l.length = l
  | [], _ => rfl
  | b :: l, m => by
    rw [beN, List.length_cons, be, be_beN l]
    have h := beN_split l (256 * m + b.toNat)
    have hl := beN_lt0 l
    have hq : beN (256 * m + b.toNat) l / 256 ^ l.length = 256 * m + b.toNat := by
      rw [h, Nat.mul_comm, Nat.mul_add_div (Nat.pow_pos (by decide)), Nat.div_eq_of_lt hl, Nat.add_zero]
    rw [hq]
    congr 1
    apply UInt8.toNat_inj.1
    rw [UInt8.toNat_ofNat']
    have := b.toNat_lt
    omega
theorem be_take (r : List UInt8) (z : Nat) (h : z ≤ r.length) : be (beN 0 (r.take z)) z = r.take z := by
  have h2 : (r.take z).length = z := by rw [List.length_take]; omega
  have := be_beN (r.take z) 0
  rwa [h2] at this
theorem beN_take_lt (r : List UInt8) (z : Nat) (h : z ≤ r.length) : beN 0 (r.take z) < 256 ^ z := by
  have h2 : (r.take z).length = z := by rw [List.length_take]; omega
  have := beN_lt0 (r.take z)
  rwa [h2] at this
theorem byte_is {b : UInt8} {k : Nat} (h : b.toNat = k) (hk : k < 256) : b = UInt8.ofNat k := by
  apply UInt8.toNat_inj.1
  rw [UInt8.toNat_ofNat', h]
  omega

/-- what a row that took says -/
theorem take_inv {s most z n0 least : Nat} {b : UInt8} {r : List UInt8} (h : rowU s b.toNat = ((z : Int), n0, least)) (hc : (takeP (b :: r) most s).c = 0) :
    z ≤ r.length ∧ least ≤ beN n0 (r.take z) ∧ ((s = 1 ∨ s = 2) → beN n0 (r.take z) ≤ r.length - z ∧ takeP (b :: r) most s = ⟨beN n0 (r.take z), (r.drop z).take (beN n0 (r.take z)), 0, 1 + z + beN n0 (r.take z)⟩) ∧
      (¬ (s = 1 ∨ s = 2) → takeP (b :: r) most s = ⟨beN n0 (r.take z), [], 0, 1 + z⟩) := by
  rw [takeP_eq h] at hc ⊢
  generalize beN n0 (r.take z) = N at *
  by_cases h1 : r.length < z
  · rw [if_pos h1] at hc; cases hc
  · rw [if_neg h1] at hc ⊢
    by_cases h2 : N < least
    · rw [if_pos h2] at hc; cases hc
    · rw [if_neg h2] at hc ⊢
      by_cases h3 : s ≠ 0 ∧ most < N
      · rw [if_pos h3] at hc; cases hc
      · rw [if_neg h3] at hc ⊢
        by_cases h4 : s = 1 ∨ s = 2
        · rw [if_pos h4] at hc ⊢
          by_cases h5 : r.length - z < N
          · rw [if_pos h5] at hc; cases hc
          · rw [if_neg h5]
            exact ⟨by omega, by omega, fun _ => ⟨by omega, rfl⟩, fun h => absurd h4 h⟩
        · rw [if_neg h4]
          exact ⟨by omega, by omega, fun h => absurd h h4, fun _ => rfl⟩
/-- the bytes that were taken are laid so -/
def WasLaid (S : List UInt8) (s : Nat) (P : TP) : Prop := ∃ R, S = laidQ s P.n P.t ++ R ∧ (laidQ s P.n P.t).length = P.m
theorem no_row_c {s most : Nat} {b : UInt8} {r : List UInt8} (h : rowU s b.toNat = (-1, 0, 0)) : (takeP (b :: r) most s).c = 5 := by
  rw [takeP, h]; rfl

/-- a number or a beginning behind a first byte of its own -/
theorem was_num {S : List UInt8} {s most z least : Nat} {b : UInt8} {r : List UInt8} (hS : S = b :: r) (h : rowU s b.toNat = ((z : Int), 0, least)) (hs : ¬ (s = 1 ∨ s = 2)) (hc : (takeP S most s).c = 0)
    (hq : ∀ N, least ≤ N → N < 256 ^ z → laidQ s N [] = b :: be N z) : WasLaid S s (takeP S most s) := by
  subst hS
  obtain ⟨h1, h2, _, h4⟩ := take_inv h hc
  have e := hq _ h2 (beN_take_lt r z h1)
  rw [h4 hs]
  refine ⟨r.drop z, ?_, ?_⟩
  · show b :: r = laidQ s (beN 0 (r.take z)) [] ++ r.drop z
    rw [e, be_take r z h1, List.cons_append, List.take_append_drop]
  · show (laidQ s (beN 0 (r.take z)) []).length = 1 + z
    rw [e, List.length_cons, be_length]; omega
/-- a text behind a first byte of its own -/
theorem was_txt {S : List UInt8} {s most z least : Nat} {b : UInt8} {r : List UInt8} (hS : S = b :: r) (h : rowU s b.toNat = ((z : Int), 0, least)) (hs : s = 1 ∨ s = 2) (hc : (takeP S most s).c = 0)
    (hq : ∀ N, least ≤ N → N < 256 ^ z → ∀ T, laidQ s N T = (b :: be N z) ++ T) : WasLaid S s (takeP S most s) := by
  subst hS
  obtain ⟨h1, h2, h3, _⟩ := take_inv h hc
  obtain ⟨h5, h6⟩ := h3 hs
  have e := hq _ h2 (beN_take_lt r z h1) ((r.drop z).take (beN 0 (r.take z)))
  rw [h6]
  refine ⟨(r.drop z).drop (beN 0 (r.take z)), ?_, ?_⟩
  · show b :: r = laidQ s (beN 0 (r.take z)) _ ++ _
    rw [e, be_take r z h1, List.cons_append, List.cons_append, List.append_assoc, List.take_append_drop, List.take_append_drop]
  · show (laidQ s (beN 0 (r.take z)) _).length = 1 + z + beN 0 (r.take z)
    rw [e, List.length_append, List.length_cons, be_length, List.length_take, List.length_drop]; omega
/-- a number within the first byte -/
theorem was_in {S : List UInt8} {s most n : Nat} {b : UInt8} {r : List UInt8} (hS : S = b :: r) (h : rowU s b.toNat = (((0 : Nat) : Int), n, 0)) (hs : ¬ (s = 1 ∨ s = 2)) (hc : (takeP S most s).c = 0) (hq : laidQ s n [] = [b]) : WasLaid S s (takeP S most s) := by
  subst hS
  obtain ⟨h1, h2, _, h4⟩ := take_inv h hc
  rw [h4 hs, List.take_zero, beN]
  exact ⟨r, by rw [hq]; rfl, by rw [hq]; rfl⟩
theorem was_in2 {S : List UInt8} {most n : Nat} {b : UInt8} {r : List UInt8} (hS : S = b :: r) (h : rowU 2 b.toNat = (((0 : Nat) : Int), n, 0)) (hc : (takeP S most 2).c = 0) (hq : ∀ T, laidQ 2 n T = [b] ++ T) : WasLaid S 2 (takeP S most 2) := by
  subst hS
  obtain ⟨h1, h2, h3, _⟩ := take_inv h hc
  obtain ⟨h5, h6⟩ := h3 (.inr rfl)
  rw [h6, List.take_zero, beN, List.drop_zero]
  rw [List.take_zero, beN] at h5
  exact ⟨r.drop n, by rw [hq]; simp, by rw [hq, List.length_append, List.length_take]; simp; omega⟩
end Go.Proofs.YtlhmmplkdjibkaaGreatDoor
/- What is taken was laid, sort by sort. -/
namespace Go.Proofs.YtlhmmplkdjibkaaGreatDoor
open Go.RowKit

theorem was0 (S : List UInt8) (hc : (takeP S 65535 0).c = 0) : WasLaid S 0 (takeP S 65535 0) := by
  cases hS : S with
  | nil => rw [hS] at hc; cases hc
  | cons b r =>
    rw [← hS]
    have hq : b.toNat < 256 := b.toNat_lt
    by_cases h0 : b.toNat < 128
    · have hb : b = UInt8.ofNat (b.toNat) := byte_is (by omega) (by omega)
      have hr := rowU_in0 (b.toNat) (by omega)
      rw [← hb] at hr
      exact was_in hS hr (by decide) hc (by rw [laidQ, if_pos rfl, numP, if_pos (by omega), ← hb])
    · skip
      by_cases h1 : b.toNat = 204
      · have hb : b = 204 := byte_is h1 (by decide)
        subst hb
        exact was_num hS (z := 1) (least := 128) rfl (by decide) hc (fun N hl hu => by rw [laidQ, if_pos rfl, numP, if_neg (by omega), if_pos (by omega)])
      · skip
        by_cases h2 : b.toNat = 205
        · have hb : b = 205 := byte_is h2 (by decide)
          subst hb
          exact was_num hS (z := 2) (least := 256) rfl (by decide) hc (fun N hl hu => by rw [laidQ, if_pos rfl, numP, if_neg (by omega), if_neg (by omega), if_pos (by omega)])
        · skip
          by_cases h3 : b.toNat = 206
          · have hb : b = 206 := byte_is h3 (by decide)
            subst hb
            exact was_num hS (z := 4) (least := 65536) rfl (by decide) hc (fun N hl hu => by rw [laidQ, if_pos rfl, numP, if_neg (by omega), if_neg (by omega), if_neg (by omega), if_pos (by omega)])
          · skip
            by_cases h4 : b.toNat = 207
            · have hb : b = 207 := byte_is h4 (by decide)
              subst hb
              exact was_num hS (z := 8) (least := 4294967296) rfl (by decide) hc (fun N hl hu => by rw [laidQ, if_pos rfl, numP, if_neg (by omega), if_neg (by omega), if_neg (by omega), if_neg (by omega)])
            · skip
              have hn : rowU 0 b.toNat = (-1, 0, 0) := by simp [rowU, h0, h1, h2, h3, h4]
              rw [hS, no_row_c hn] at hc
              cases hc
theorem was1 (S : List UInt8) (hc : (takeP S 65535 1).c = 0) : WasLaid S 1 (takeP S 65535 1) := by
  cases hS : S with
  | nil => rw [hS] at hc; cases hc
  | cons b r =>
    rw [← hS]
    have hq : b.toNat < 256 := b.toNat_lt
    by_cases h0 : b.toNat = 196
    · have hb : b = 196 := byte_is h0 (by decide)
      subst hb
      exact was_txt hS (z := 1) (least := 0) rfl (by decide) hc (fun N hl hu T => by rw [laidQ, if_neg (by decide), if_pos (by decide), headP, if_pos (by decide), if_pos (by omega)])
    · skip
      by_cases h1 : b.toNat = 197
      · have hb : b = 197 := byte_is h1 (by decide)
        subst hb
        exact was_txt hS (z := 2) (least := 256) rfl (by decide) hc (fun N hl hu T => by rw [laidQ, if_neg (by decide), if_pos (by decide), headP, if_pos (by decide), if_neg (by omega)])
      · skip
        have hn : rowU 1 b.toNat = (-1, 0, 0) := by simp [rowU, h0, h1]
        rw [hS, no_row_c hn] at hc
        cases hc
theorem was2 (S : List UInt8) (hc : (takeP S 65535 2).c = 0) : WasLaid S 2 (takeP S 65535 2) := by
  cases hS : S with
  | nil => rw [hS] at hc; cases hc
  | cons b r =>
    rw [← hS]
    have hq : b.toNat < 256 := b.toNat_lt
    by_cases h0 : 160 ≤ b.toNat ∧ b.toNat < 192
    · have hb : b = UInt8.ofNat (160 + (b.toNat - 160)) := byte_is (by omega) (by omega)
      have hr := rowU_in2 (b.toNat - 160) (by omega)
      rw [← hb] at hr
      exact was_in2 hS hr hc (fun T => by rw [laidQ, if_neg (by decide), if_pos (by decide), headP, if_neg (by decide), if_pos (by decide), if_pos (by omega), ← hb])
    · skip
      by_cases h1 : b.toNat = 217
      · have hb : b = 217 := byte_is h1 (by decide)
        subst hb
        exact was_txt hS (z := 1) (least := 32) rfl (by decide) hc (fun N hl hu T => by rw [laidQ, if_neg (by decide), if_pos (by decide), headP, if_neg (by decide), if_pos (by decide), if_neg (by omega), if_pos (by omega)])
      · skip
        by_cases h2 : b.toNat = 218
        · have hb : b = 218 := byte_is h2 (by decide)
          subst hb
          exact was_txt hS (z := 2) (least := 256) rfl (by decide) hc (fun N hl hu T => by rw [laidQ, if_neg (by decide), if_pos (by decide), headP, if_neg (by decide), if_pos (by decide), if_neg (by omega), if_neg (by omega)])
        · skip
          have hn : rowU 2 b.toNat = (-1, 0, 0) := by simp [rowU, h0, h1, h2]
          rw [hS, no_row_c hn] at hc
          cases hc
theorem was3 (S : List UInt8) (hc : (takeP S 65535 3).c = 0) : WasLaid S 3 (takeP S 65535 3) := by
  cases hS : S with
  | nil => rw [hS] at hc; cases hc
  | cons b r =>
    rw [← hS]
    have hq : b.toNat < 256 := b.toNat_lt
    by_cases h0 : 144 ≤ b.toNat ∧ b.toNat < 160
    · have hb : b = UInt8.ofNat (144 + (b.toNat - 144)) := byte_is (by omega) (by omega)
      have hr := rowU_in3 (b.toNat - 144) (by omega)
      rw [← hb] at hr
      exact was_in hS hr (by decide) hc (by rw [laidQ, if_neg (by decide), if_neg (by decide), headP, if_neg (by decide), if_neg (by decide), if_pos (by decide), if_pos (by omega), ← hb])
    · skip
      by_cases h1 : b.toNat = 220
      · have hb : b = 220 := byte_is h1 (by decide)
        subst hb
        exact was_num hS (z := 2) (least := 16) rfl (by decide) hc (fun N hl hu => by rw [laidQ, if_neg (by decide), if_neg (by decide), headP, if_neg (by decide), if_neg (by decide), if_pos (by decide), if_neg (by omega)])
      · skip
        have hn : rowU 3 b.toNat = (-1, 0, 0) := by simp [rowU, h0, h1]
        rw [hS, no_row_c hn] at hc
        cases hc
theorem was4 (S : List UInt8) (hc : (takeP S 65535 4).c = 0) : WasLaid S 4 (takeP S 65535 4) := by
  cases hS : S with
  | nil => rw [hS] at hc; cases hc
  | cons b r =>
    rw [← hS]
    have hq : b.toNat < 256 := b.toNat_lt
    by_cases h0 : 128 ≤ b.toNat ∧ b.toNat < 144
    · have hb : b = UInt8.ofNat (128 + (b.toNat - 128)) := byte_is (by omega) (by omega)
      have hr := rowU_in4 (b.toNat - 128) (by omega)
      rw [← hb] at hr
      exact was_in hS hr (by decide) hc (by rw [laidQ, if_neg (by decide), if_neg (by decide), headP, if_neg (by decide), if_neg (by decide), if_neg (by decide), if_pos (by omega), ← hb])
    · skip
      by_cases h1 : b.toNat = 222
      · have hb : b = 222 := byte_is h1 (by decide)
        subst hb
        exact was_num hS (z := 2) (least := 16) rfl (by decide) hc (fun N hl hu => by rw [laidQ, if_neg (by decide), if_neg (by decide), headP, if_neg (by decide), if_neg (by decide), if_neg (by decide), if_neg (by omega)])
      · skip
        have hn : rowU 4 b.toNat = (-1, 0, 0) := by simp [rowU, h0, h1]
        rw [hS, no_row_c hn] at hc
        cases hc
theorem was_any (S : List UInt8) (s : Nat) (hs : s ≤ 4) (hc : (takeP S 65535 s).c = 0) : WasLaid S s (takeP S 65535 s) := by
  obtain rfl | rfl | rfl | rfl | rfl : s = 0 ∨ s = 1 ∨ s = 2 ∨ s = 3 ∨ s = 4 := by omega
  · exact was0 S hc
  · exact was1 S hc
  · exact was2 S hc
  · exact was3 S hc
  · exact was4 S hc
end Go.Proofs.YtlhmmplkdjibkaaGreatDoor
/- Layer 7's things, and their bytes, as the document says them. -/
namespace Go.Proofs.YtlhmmplkdjibkaaGreatDoor
open Go.RowKit

structure PartR where
  root : (List UInt8)
  weight : Nat
  first : Nat
  life : Nat
  keys : Nat
structure SigR where
  index : Nat
  wots : List (List UInt8)
  path : List (List UInt8)
structure SlotR where
  l : Nat
  signed : Bool
  sig : SigR
structure RevR where
  pos : Nat
  slot : SlotR
  part : PartR
structure CertR where
  root : (List UInt8)
  signed : Nat
  reveals : List RevR
  coins : List Nat
  slotProof : List (List UInt8)
  partProof : List (List UInt8)
structure MsgR where
  headers : (List UInt8)
  parts : (List UInt8)
  count : Nat
  proven : Nat
  first : Nat
  last : Nat
structure HdrR where
  round : Nat
  prev : (List UInt8)
  txns : (List UInt8)
  seed : (List UInt8)

/-- a map's pairs that are laid: how many, their bytes; a value of no bytes is left out -/
def prs (fs : List (UInt8 × (List UInt8))) : List (UInt8 × (List UInt8)) := fs.filter fun f => !f.2.isEmpty
def prsB (fs : List (UInt8 × (List UInt8))) : (List UInt8) := (prs fs).flatMap fun f => 161 :: f.1 :: f.2
def mapP (fs : List (UInt8 × (List UInt8))) : (List UInt8) := headP 4 (prs fs).length ++ prsB fs
theorem prs_snoc (fs : List (UInt8 × (List UInt8))) (c : UInt8) (v : (List UInt8)) : prs (fs ++ [(c, v)]) = if v = [] then prs fs else prs fs ++ [(c, v)] := by
  unfold prs
  rw [List.filter_append]
  cases v with
  | nil => simp
  | cons a v => simp
theorem prsB_snoc (fs : List (UInt8 × (List UInt8))) (c : UInt8) (v : (List UInt8)) : prsB (fs ++ [(c, v)]) = if v = [] then prsB fs else prsB fs ++ (161 :: c :: v) := by
  unfold prsB
  rw [prs_snoc]
  split <;> simp
def numZ (n : Nat) : (List UInt8) := if n = 0 then [] else numP n
def binP (s : (List UInt8)) : (List UInt8) := headP 1 s.length ++ s
def digsP (l : List (List UInt8)) : (List UInt8) := if l = [] then [] else headP 3 l.length ++ l.flatMap binP
def smallP (s : (List UInt8)) : (List UInt8) := if s = [128] then [] else s
def partF (p : PartR) : List (UInt8 × (List UInt8)) := [(102, numZ p.first), (107, numZ p.keys), (108, numZ p.life), (114, binP p.root), (119, numZ p.weight)]
def sigF (g : SigR) : List (UInt8 × (List UInt8)) := [(105, numZ g.index), (112, digsP g.path), (118, digsP g.wots)]
def slotF (x : SlotR) : List (UInt8 × (List UInt8)) := [(103, smallP (mapP (sigF x.sig))), (108, numZ x.l), (115, if x.signed then numZ 1 else [])]
def revF (r : RevR) : List (UInt8 × (List UInt8)) := [(112, numZ r.pos), (113, mapP (partF r.part)), (115, smallP (mapP (slotF r.slot)))]
def coinsP (l : List Nat) : (List UInt8) := if l = [] then [] else headP 3 l.length ++ l.flatMap numP
def revsP (l : List RevR) : (List UInt8) := if l = [] then [] else headP 3 l.length ++ l.flatMap fun r => mapP (revF r)
def certF (c : CertR) : List (UInt8 × (List UInt8)) := [(80, digsP c.partProof), (83, digsP c.slotProof), (99, binP c.root), (112, coinsP c.coins), (114, revsP c.reveals), (119, numZ c.signed)]
def msgF (m : MsgR) : List (UInt8 × (List UInt8)) := [(102, numZ m.first), (104, binP m.headers), (108, numZ m.last), (110, numZ m.count), (118, binP m.parts), (119, numZ m.proven)]
/-- a digest has 32 bytes; a list of at most n of them -/
def digB (s : (List UInt8)) : Bool := s.length == 32
def mayB (l : List (List UInt8)) (n : Nat) : Bool := l.all digB && decide (l.length ≤ n)
def maySigB (g : SigR) : Bool := mayB g.path 16 && mayB g.wots 67
def mayRevB (r : RevR) : Bool := digB r.part.root && maySigB r.slot.sig
def mayCertB (c : CertR) : Bool := digB c.root && mayB c.partProof 10240 && mayB c.slotProof 10240 && decide (c.coins.length ≤ 640) && decide (c.reveals.length ≤ 640) && c.reveals.all mayRevB
def layOr (b : Bool) (s : (List UInt8)) : (List UInt8) × Int := if b then (s, 0) else ([], 2)
def layPartP (p : PartR) : (List UInt8) × Int := layOr (digB p.root) (mapP (partF p))
def laySlotP (x : SlotR) : (List UInt8) × Int := layOr (maySigB x.sig) (mapP (slotF x))
def layCertP (c : CertR) : (List UInt8) × Int := layOr (mayCertB c) (mapP (certF c))
def layMsgP (m : MsgR) : (List UInt8) × Int := layOr (digB m.headers && digB m.parts) (mapP (msgF m))
end Go.Proofs.YtlhmmplkdjibkaaGreatDoor
/- Reading, as the document says it: what is taken was laid, what is laid is taken; codecs. -/
namespace Go.Proofs.YtlhmmplkdjibkaaGreatDoor
open Go.RowKit

theorem takeP_bound (left : (List UInt8)) (m m' s : Nat) (hc : (takeP left m s).c = 0) (hm : m ≤ m') : takeP left m' s = takeP left m s := by
  cases left with
  | nil => rfl
  | cons b r =>
    simp only [takeP] at *
    generalize rowU s b.toNat = R at *
    obtain ⟨sz, n0, least⟩ := R
    simp only at hc ⊢
    by_cases h0 : sz < 0
    · rw [if_pos h0, if_pos h0]
    · rw [if_neg h0] at hc ⊢
      rw [if_neg h0]
      by_cases h1 : r.length < sz.toNat
      · rw [if_pos h1, if_pos h1]
      · rw [if_neg h1] at hc ⊢
        rw [if_neg h1]
        by_cases h2 : beN n0 (r.take sz.toNat) < least
        · rw [if_pos h2, if_pos h2]
        · rw [if_neg h2] at hc ⊢
          rw [if_neg h2]
          by_cases h3 : s ≠ 0 ∧ m < beN n0 (r.take sz.toNat)
          · rw [if_pos h3] at hc; cases hc
          · rw [if_neg h3, if_neg (fun h => h3 ⟨h.1, by omega⟩)]
theorem takeP_narrow (left : (List UInt8)) (m m' s : Nat) (hc : (takeP left m' s).c = 0) (hn : s = 0 ∨ (takeP left m' s).n ≤ m) (_hm : m ≤ m') : takeP left m s = takeP left m' s := by
  cases left with
  | nil => rfl
  | cons b r =>
    simp only [takeP] at *
    generalize rowU s b.toNat = R at *
    obtain ⟨sz, n0, least⟩ := R
    simp only at hc hn ⊢
    by_cases h0 : sz < 0
    · rw [if_pos h0, if_pos h0]
    · rw [if_neg h0] at hc hn ⊢
      rw [if_neg h0]
      by_cases h1 : r.length < sz.toNat
      · rw [if_pos h1, if_pos h1]
      · rw [if_neg h1] at hc hn ⊢
        rw [if_neg h1]
        by_cases h2 : beN n0 (r.take sz.toNat) < least
        · rw [if_pos h2, if_pos h2]
        · rw [if_neg h2] at hc hn ⊢
          rw [if_neg h2]
          by_cases h3 : s ≠ 0 ∧ m' < beN n0 (r.take sz.toNat)
          · rw [if_pos h3] at hc; cases hc
          · rw [if_neg h3] at hc hn ⊢
            by_cases h4 : s = 1 ∨ s = 2
            · rw [if_pos h4] at hc hn ⊢
              by_cases h5 : r.length - sz.toNat < beN n0 (r.take sz.toNat)
              · rw [if_pos h5] at hc; cases hc
              · rw [if_neg h5] at hn ⊢
                simp only at hn
                rw [if_neg (by omega)]
            · rw [if_neg h4] at hn ⊢
              simp only at hn
              rw [if_neg (by omega)]

/-- a fault: its Code, its place -/
abbrev Flt := Nat × Nat
abbrev Res (α : Type) := Except Flt (α × Nat)
/-- a thing of a sort, by a reader whose bound is 10240, at place a: the number, the text, how many bytes -/
def takeE (s : Nat) (left : (List UInt8)) (a : Nat) : Res (Nat × (List UInt8)) :=
  if (takeP left 10240 s).c = 0 then .ok (((takeP left 10240 s).n, (takeP left 10240 s).t), (takeP left 10240 s).m) else .error ((takeP left 10240 s).c, a)
theorem takeE_put (s n : Nat) (T R : (List UInt8)) (a : Nat) (hs : s ≤ 4) (hn : n < 18446744073709551616) (hb : s = 0 ∨ n ≤ 10240) (h12 : s = 1 ∨ s = 2 → T.length = n) (h0 : ¬ (s = 1 ∨ s = 2) → T = []) :
    takeE s (laidQ s n T ++ R) a = .ok ((n, T), (laidQ s n T).length) := by
  have h : takeP (laidQ s n T ++ R) 65535 s = ⟨n, T, 0, (laidQ s n T).length⟩ := by
    obtain rfl | rfl | rfl | rfl | rfl : s = 0 ∨ s = 1 ∨ s = 2 ∨ s = 3 ∨ s = 4 := by omega
    · obtain rfl := h0 (by decide); exact back0 n R hn
    · obtain rfl := h12 (by decide); exact back1 T R (by omega)
    · obtain rfl := h12 (by decide); exact back2 T R (by omega)
    · obtain rfl := h0 (by decide); exact back3 n R (by omega)
    · obtain rfl := h0 (by decide); exact back4 n R (by omega)
  have h2 := takeP_narrow (laidQ s n T ++ R) 10240 65535 s (by rw [h]) (by rw [h]; exact hb) (by decide)
  rw [takeE, h2, h]
  rfl
/-- what was taken was laid so -/
structure Was (s : Nat) (left : (List UInt8)) (n : Nat) (T : (List UInt8)) (k : Nat) : Prop where
  l : ∃ R, left = laidQ s n T ++ R
  k : k = (laidQ s n T).length
  n64 : n < 18446744073709551616
  nb : s ≠ 0 → n ≤ 10240
  t12 : s = 1 ∨ s = 2 → T.length = n
  t0 : ¬ (s = 1 ∨ s = 2) → T = []
theorem takeP_le (left : (List UInt8)) (m s : Nat) (hc : (takeP left m s).c = 0) (hs : s ≠ 0) : (takeP left m s).n ≤ m := by
  cases left with
  | nil => cases hc
  | cons b r =>
    simp only [takeP] at *
    generalize rowU s b.toNat = R at *
    obtain ⟨sz, n0, least⟩ := R
    simp only at hc ⊢
    by_cases h0 : sz < 0
    · rw [if_pos h0] at hc; cases hc
    · rw [if_neg h0] at hc ⊢
      by_cases h1 : r.length < sz.toNat
      · rw [if_pos h1] at hc; cases hc
      · rw [if_neg h1] at hc ⊢
        by_cases h2 : beN n0 (r.take sz.toNat) < least
        · rw [if_pos h2] at hc; cases hc
        · rw [if_neg h2] at hc ⊢
          by_cases h3 : s ≠ 0 ∧ m < beN n0 (r.take sz.toNat)
          · rw [if_pos h3] at hc; cases hc
          · rw [if_neg h3] at hc ⊢
            have h4 : beN n0 (r.take sz.toNat) ≤ m := Nat.le_of_not_lt fun h => h3 ⟨hs, h⟩
            split
            · split <;> simp_all
            · exact h4
theorem takeE_was {s : Nat} {left T : (List UInt8)} {a n k : Nat} (hs : s ≤ 4) (h : takeE s left a = .ok ((n, T), k)) : Was s left n T k := by
  unfold takeE at h
  by_cases hc : (takeP left 10240 s).c = 0
  · rw [if_pos hc] at h
    have hf := takeP_fits left 10240 s
    have hb := takeP_bound left 10240 65535 s hc (by decide)
    have hw := was_any left s hs (by rw [hb]; exact hc)
    rw [hb] at hw
    have hle := takeP_le left 10240 s hc
    generalize takeP left 10240 s = P at *
    simp only [Except.ok.injEq, Prod.mk.injEq] at h
    obtain ⟨⟨rfl, rfl⟩, rfl⟩ := h
    obtain ⟨R, h1, h2⟩ := hw
    exact ⟨⟨R, h1⟩, h2.symm, hf.n64, hle, fun h => (hf.t12 h).symm, hf.t0⟩
  · rw [if_neg hc] at h; cases h

/-- a way to lay and to read: what is laid is read, and what is read was laid so -/
structure Codec (α : Type) where
  put : α → (List UInt8)
  ok : α → Prop
  get : (List UInt8) → Nat → Res α
  there : ∀ x R a, ok x → get (put x ++ R) a = .ok (x, (put x).length)
  back : ∀ left a x k, get left a = .ok (x, k) → ok x ∧ k = (put x).length ∧ ∃ R, left = put x ++ R
  some : ∀ x, ok x → put x ≠ []

theorem numP_ne (n : Nat) : numP n ≠ [] := by
  unfold numP
  repeat' split
  all_goals simp
theorem headP_ne (s : Int) (n : Nat) : headP s n ≠ [] := by
  unfold headP
  repeat' split
  all_goals simp

/-- a number that is not 0 -/
def numG (left : (List UInt8)) (a : Nat) : Res Nat := match takeE 0 left a with
  | .ok ((n, _), k) => if n = 0 then .error (5, 0) else .ok (n, k)
  | .error f => .error f
def numC : Codec Nat where
  put := numP
  ok n := n ≠ 0 ∧ n < 18446744073709551616
  get := numG
  there n R a h := by
    rw [numG, show numP n = laidQ 0 n [] from rfl, takeE_put 0 n [] R a (by decide) h.2 (.inl rfl) (fun h => by omega) (fun _ => rfl)]
    exact if_neg h.1
  back left a n k h := by
    unfold numG at h
    split at h
    · rename_i n' t k' he
      have w := takeE_was (by decide) he
      by_cases h0 : n' = 0
      · rw [if_pos h0] at h; cases h
      · rw [if_neg h0] at h
        cases h
        obtain ⟨R, hR⟩ := w.l
        exact ⟨⟨h0, w.n64⟩, w.k, R, hR⟩
    · cases h
  some n _ := numP_ne n
/-- a number, also 0 -/
def anyG (left : (List UInt8)) (a : Nat) : Res Nat := match takeE 0 left a with
  | .ok ((n, _), k) => .ok (n, k)
  | .error f => .error f
def anyC : Codec Nat where
  put := numP
  ok n := n < 18446744073709551616
  get := anyG
  there n R a h := by
    rw [anyG, show numP n = laidQ 0 n [] from rfl, takeE_put 0 n [] R a (by decide) h (.inl rfl) (fun h => by omega) (fun _ => rfl)]
  back left a n k h := by
    unfold anyG at h
    split at h
    · rename_i n' t k' he
      have w := takeE_was (by decide) he
      cases h
      obtain ⟨R, hR⟩ := w.l
      exact ⟨w.n64, w.k, R, hR⟩
    · cases h
  some n _ := numP_ne n
/-- yes -/
def yesG (left : (List UInt8)) (a : Nat) : Res Bool := match takeE 0 left a with
  | .ok ((n, _), k) => if n = 1 then .ok (true, k) else .error (5, 0)
  | .error f => .error f
def yesC : Codec Bool where
  put _ := numP 1
  ok x := x = true
  get := yesG
  there x R a h := by
    subst h
    rw [yesG, show numP 1 = laidQ 0 1 [] from rfl, takeE_put 0 1 [] R a (by decide) (by decide) (.inl rfl) (fun h => by omega) (fun _ => rfl)]
    rfl
  back left a x k h := by
    unfold yesG at h
    split at h
    · rename_i n' t k' he
      have w := takeE_was (by decide) he
      by_cases h0 : n' = 1
      · rw [if_pos h0] at h
        cases h
        obtain ⟨R, hR⟩ := w.l
        subst h0
        exact ⟨rfl, w.k, R, hR⟩
      · rw [if_neg h0] at h; cases h
    · cases h
  some _ _ := numP_ne 1
/-- a digest -/
def digG (left : (List UInt8)) (a : Nat) : Res (List UInt8) := match takeE 1 left a with
  | .ok ((_, t), k) => if digB t then .ok (t, k) else .error (5, 0)
  | .error f => .error f
def digC : Codec (List UInt8) where
  put := binP
  ok s := digB s = true
  get := digG
  there s R a h := by
    have hl : s.length = 32 := by simpa [digB] using h
    rw [digG, show binP s = laidQ 1 s.length s from rfl, takeE_put 1 s.length s R a (by decide) (by omega) (by omega) (fun _ => rfl) (fun h => absurd (.inl rfl) h)]
    exact if_pos h
  back left a s k h := by
    unfold digG at h
    split at h
    · rename_i n' t k' he
      have w := takeE_was (by decide) he
      by_cases h0 : digB t = true
      · rw [if_pos h0] at h
        cases h
        obtain ⟨R, hR⟩ := w.l
        have ht := w.t12 (.inl rfl)
        subst ht
        exact ⟨h0, w.k, R, hR⟩
      · rw [if_neg h0] at h; cases h
    · cases h
  some s _ := by rw [binP]; simp [headP_ne]

/-- so many things, one behind the other -/
def manyG {α : Type} (g : (List UInt8) → Nat → Res α) : Nat → (List UInt8) → Nat → Res (List α)
  | 0, _, _ => .ok ([], 0)
  | n + 1, left, a => match g left a with
    | .error f => .error f
    | .ok (x, k) => match manyG g n (left.drop k) (a + k) with
      | .error f => .error f
      | .ok (l, k2) => .ok (x :: l, k + k2)
theorem many_there {α : Type} (C : Codec α) : ∀ (l : List α) (R : (List UInt8)) (a : Nat), (∀ x ∈ l, C.ok x) → manyG C.get l.length (l.flatMap C.put ++ R) a = .ok (l, (l.flatMap C.put).length)
  | [], _, _, _ => rfl
  | x :: l, R, a, h => by
    have h1 := C.there x (l.flatMap C.put ++ R) a (h x (by simp))
    rw [List.length_cons, manyG, List.flatMap_cons, List.append_assoc, h1]
    simp only [List.drop_left]
    rw [many_there C l R (a + (C.put x).length) (fun y hy => h y (by simp [hy]))]
    simp
theorem many_back {α : Type} (C : Codec α) : ∀ (n : Nat) (left : (List UInt8)) (a : Nat) (l : List α) (k : Nat), manyG C.get n left a = .ok (l, k) → l.length = n ∧ (∀ x ∈ l, C.ok x) ∧ k = (l.flatMap C.put).length ∧ ∃ R, left = l.flatMap C.put ++ R
  | 0, left, _, l, k, h => by
    cases h
    exact ⟨rfl, (fun x hx => by cases hx), rfl, left, rfl⟩
  | n + 1, left, a, l, k, h => by
    rw [manyG] at h
    cases hg : C.get left a with
    | error f => rw [hg] at h; cases h
    | ok p =>
      obtain ⟨x, k1⟩ := p
      rw [hg] at h
      simp only at h
      cases hm : manyG C.get n (left.drop k1) (a + k1) with
      | error f => rw [hm] at h; cases h
      | ok q =>
        obtain ⟨l2, k2⟩ := q
        rw [hm] at h
        cases h
        obtain ⟨b1, b2, R, b3⟩ := C.back _ _ _ _ hg
        obtain ⟨c1, c2, c3, R2, c4⟩ := many_back C n _ _ _ _ hm
        refine ⟨by rw [List.length_cons, c1], fun y hy => ?_, by rw [List.flatMap_cons, List.length_append, ← b2, ← c3], R2, ?_⟩
        · rcases List.mem_cons.1 hy with rfl | hy
          · exact b1
          · exact c2 y hy
        · rw [b3, b2, List.drop_left] at c4
          rw [b3, c4, List.flatMap_cons, List.append_assoc]
/-- a list of some things, of at most m -/
def listG {α : Type} (m : Nat) (g : (List UInt8) → Nat → Res α) (left : (List UInt8)) (a : Nat) : Res (List α) := match takeE 3 left a with
  | .error f => .error f
  | .ok ((n, _), k) => if m < n then .error (3, 0) else if n = 0 then .error (5, 0) else match manyG g n (left.drop k) (a + k) with
    | .error f => .error f
    | .ok (l, k2) => .ok (l, k + k2)
def listC {α : Type} (m : Nat) (hm : m ≤ 10240) (C : Codec α) : Codec (List α) where
  put l := headP 3 l.length ++ l.flatMap C.put
  ok l := l ≠ [] ∧ l.length ≤ m ∧ ∀ x ∈ l, C.ok x
  get := listG m C.get
  there l R a h := by
    have hl : l.length ≠ 0 := fun e => h.1 (List.eq_nil_of_length_eq_zero e)
    rw [listG, List.append_assoc, show headP 3 l.length = laidQ 3 l.length [] from rfl, takeE_put 3 l.length [] _ a (by decide) (by omega) (.inr (by omega)) (fun h => by omega) (fun _ => rfl)]
    simp only
    rw [if_neg (by omega), if_neg hl, List.drop_left, many_there C l R _ h.2.2]
    simp only [List.length_append]
  back left a l k h := by
    unfold listG at h
    cases he : takeE 3 left a with
    | error f => rw [he] at h; cases h
    | ok p =>
      obtain ⟨⟨n, t⟩, k1⟩ := p
      rw [he] at h
      simp only at h
      have w := takeE_was (by decide) he
      by_cases h1 : m < n
      · rw [if_pos h1] at h; cases h
      · rw [if_neg h1] at h
        by_cases h0 : n = 0
        · rw [if_pos h0] at h; cases h
        · rw [if_neg h0] at h
          cases hg : manyG C.get n (left.drop k1) (a + k1) with
          | error f => rw [hg] at h; cases h
          | ok q =>
            obtain ⟨l2, k2⟩ := q
            rw [hg] at h
            cases h
            obtain ⟨c1, c2, c3, R2, c4⟩ := many_back C n _ _ _ _ hg
            obtain ⟨R, hR⟩ := w.l
            have ht := w.t0 (by decide)
            subst ht
            subst c1
            refine ⟨⟨fun e => h0 (by rw [e]; rfl), by omega, c2⟩, by rw [List.length_append, c3, w.k]; rfl, R2, ?_⟩
            rw [hR, w.k, List.drop_left] at c4
            rw [hR, c4, ← List.append_assoc]
            rfl
  some l _ := by simp [headP_ne]
end Go.Proofs.YtlhmmplkdjibkaaGreatDoor
/- Maps: fields by their keys; what is laid is read, and what is read was laid so. -/
namespace Go.Proofs.YtlhmmplkdjibkaaGreatDoor
open Go.RowKit

/-- a field of a thing: its key, how it is laid and read, what of the thing it is (nothing, if it is left out), how it is set -/
structure Fld (ρ : Type) where
  key : UInt8
  β : Type
  C : Codec β
  view : ρ → Option β
  set : ρ → β → ρ
def bytesF {ρ : Type} (p : ρ) (f : Fld ρ) : (List UInt8) := match f.view p with
  | some v => f.C.put v
  | none => []
def prL {ρ : Type} (fs : List (Fld ρ)) (p : ρ) : List (UInt8 × (List UInt8)) := fs.map fun f => (f.key, bytesF p f)
/-- the first field of that key, and the fields behind it -/
def seek {ρ : Type} (t : (List UInt8)) : List (Fld ρ) → Option (Fld ρ × List (Fld ρ))
  | [] => none
  | g :: gs => if [g.key] = t then some (g, gs) else seek t gs
theorem seek_split {ρ : Type} (t : (List UInt8)) : ∀ (gs : List (Fld ρ)) (g : Fld ρ) (rest : List (Fld ρ)), seek t gs = some (g, rest) → ∃ mid, gs = mid ++ g :: rest ∧ [g.key] = t
  | [], g, rest, h => by cases h
  | x :: gs, g, rest, h => by
    rw [seek] at h
    by_cases hx : [x.key] = t
    · rw [if_pos hx] at h
      cases h
      exact ⟨[], rfl, hx⟩
    · rw [if_neg hx] at h
      obtain ⟨mid, h1, h2⟩ := seek_split t gs g rest h
      exact ⟨x :: mid, by rw [h1]; rfl, h2⟩
/-- n pairs, of these fields -/
def pairsG {ρ : Type} : Nat → List (Fld ρ) → ρ → (List UInt8) → Nat → Res ρ
  | 0, _, p, _, _ => .ok (p, 0)
  | n + 1, gs, p, left, a => match takeE 2 left a with
    | .error f => .error f
    | .ok ((_, t), k) => match seek t gs with
      | none => .error (5, 0)
      | some (g, rest) => match g.C.get (left.drop k) (a + k) with
        | .error f => .error f
        | .ok (v, k2) => match pairsG n rest (g.set p v) ((left.drop k).drop k2) (a + k + k2) with
          | .error f => .error f
          | .ok (q, k3) => .ok (q, k + k2 + k3)
def mapG {ρ : Type} (fs : List (Fld ρ)) (zero : ρ) (fin : ρ → Bool) (left : (List UInt8)) (a : Nat) : Res ρ := match takeE 4 left a with
  | .error f => .error f
  | .ok ((n, _), k) => match pairsG n fs zero (left.drop k) (a + k) with
    | .error f => .error f
    | .ok (p, k2) => if fin p then .ok (p, k + k2) else .error (5, 0)
/-- what fields are to be -/
structure Flds {ρ : Type} (fs : List (Fld ρ)) (zero : ρ) : Prop where
  few : fs.length ≤ 8
  keys : fs.Pairwise fun f g => f.key ≠ g.key
  seen : ∀ f ∈ fs, ∀ p v, f.C.ok v → f.view (f.set p v) = some v
  other : ∀ f ∈ fs, ∀ g ∈ fs, f.key ≠ g.key → ∀ p v, g.view (f.set p v) = g.view p
  none : ∀ f ∈ fs, f.view zero = none
  ext : ∀ p q, (∀ f ∈ fs, f.view p = f.view q) → p = q
def okV {ρ : Type} (fs : List (Fld ρ)) (p : ρ) : Prop := ∀ f ∈ fs, ∀ v, f.view p = some v → f.C.ok v

theorem prs_nil {ρ : Type} (p : ρ) : ∀ (gs : List (Fld ρ)), (∀ f ∈ gs, f.view p = none) → prs (prL gs p) = []
  | [], _ => rfl
  | f :: gs, h => by
    have h1 := h f (by simp)
    rw [prL, List.map_cons, prs, List.filter_cons, if_neg (by simp [bytesF, h1])]
    exact prs_nil p gs (fun g hg => h g (by simp [hg]))
theorem prs_app {ρ : Type} (p : ρ) (a b : List (Fld ρ)) : prs (prL (a ++ b) p) = prs (prL a p) ++ prs (prL b p) := by
  rw [prL, List.map_append, prs, List.filter_append]; rfl
theorem prs_some {ρ : Type} (p : ρ) (g : Fld ρ) (gs : List (Fld ρ)) (v : g.β) (hv : g.view p = some v) (hok : g.C.ok v) : prs (prL (g :: gs) p) = (g.key, g.C.put v) :: prs (prL gs p) := by
  have hb : bytesF p g = g.C.put v := by rw [bytesF, hv]
  rw [prL, List.map_cons, prs, List.filter_cons, if_pos (by rw [hb]; have := g.C.some v hok; simpa using this), hb]
  rfl
theorem prs_skip {ρ : Type} (p : ρ) (g : Fld ρ) (gs : List (Fld ρ)) (hv : g.view p = none) : prs (prL (g :: gs) p) = prs (prL gs p) := by
  rw [prL, List.map_cons, prs, List.filter_cons, if_neg (by simp [bytesF, hv])]
  rfl
theorem prs_le {ρ : Type} (p : ρ) (gs : List (Fld ρ)) : (prs (prL gs p)).length ≤ gs.length := by
  have := List.length_filter_le (fun f : UInt8 × (List UInt8) => !f.2.isEmpty) (prL gs p)
  rw [prL, List.length_map] at this
  exact this
theorem key_put (c : UInt8) : laidQ 2 1 [c] = [161, c] := rfl
theorem seek_skip {ρ : Type} (t : (List UInt8)) (g : Fld ρ) (gs : List (Fld ρ)) (h : [g.key] ≠ t) : seek t (g :: gs) = seek t gs := by rw [seek, if_neg h]
theorem seek_hit {ρ : Type} (g : Fld ρ) (gs : List (Fld ρ)) : seek [g.key] (g :: gs) = some (g, gs) := by rw [seek, if_pos rfl]

/-- a seek that begins at fields ahead, of other keys -/
theorem seek_mid {ρ : Type} (g : Fld ρ) (gs : List (Fld ρ)) : ∀ (mid : List (Fld ρ)), (∀ f ∈ mid, f.key ≠ g.key) → seek [g.key] (mid ++ g :: gs) = some (g, gs)
  | [], _ => seek_hit g gs
  | f :: mid, h => by
    rw [List.cons_append, seek_skip _ _ _ (by have := h f (by simp); simpa using this)]
    exact seek_mid g gs mid (fun x hx => h x (by simp [hx]))

/-- mid: fields that were passed over -/
theorem pairs_there {ρ : Type} {fs : List (Fld ρ)} {zero : ρ} (F : Flds fs zero) (p : ρ) (hok : okV fs p) (R : (List UInt8)) : ∀ (gs pre mid : List (Fld ρ)) (q : ρ) (a : Nat), fs = pre ++ (mid ++ gs) → (∀ f ∈ pre ++ mid, f.view q = f.view p) → (∀ f ∈ gs, f.view q = none) →
    pairsG (prs (prL gs p)).length (mid ++ gs) q (prsB (prL gs p) ++ R) a = .ok (p, (prsB (prL gs p)).length)
  | [], pre, mid, q, a, hfs, hq, _ => by
    have : q = p := F.ext q p (fun f hf => hq f (by rw [hfs] at hf; simpa using hf))
    subst this
    rfl
  | g :: gs, pre, mid, q, a, hfs, hq, hn => by
    have hg : g ∈ fs := by rw [hfs]; simp
    cases hv : g.view p with
    | none =>
      have e : prs (prL (g :: gs) p) = prs (prL gs p) := prs_skip p g gs hv
      have ih := pairs_there F p hok R gs pre (mid ++ [g]) q a (by rw [hfs]; simp) (fun f hf => by
        rw [← List.append_assoc] at hf
        rcases List.mem_append.1 hf with hf | hf
        · exact hq f hf
        · obtain rfl := List.mem_singleton.1 hf
          rw [hv]; exact hn f (by simp)) (fun f hf => hn f (by simp [hf]))
      rw [List.append_assoc, List.singleton_append] at ih
      rw [prsB, e]
      exact ih
    | some v =>
      have hokv := hok g hg v hv
      have e : prs (prL (g :: gs) p) = (g.key, g.C.put v) :: prs (prL gs p) := prs_some p g gs v hv hokv
      have hpw := F.keys
      rw [hfs] at hpw
      have hmid : ∀ f ∈ mid, f.key ≠ g.key := fun f hf => by
        have h2 := (List.pairwise_append.1 (List.pairwise_append.1 hpw).2.1).2.2
        exact h2 f hf g (by simp)
      have hpre : ∀ f ∈ pre, f.key ≠ g.key := fun f hf => (List.pairwise_append.1 hpw).2.2 f hf g (by simp)
      have hrest : ∀ f ∈ gs, g.key ≠ f.key := fun f hf => (List.pairwise_cons.1 (List.pairwise_append.1 (List.pairwise_append.1 hpw).2.1).2.1).1 f hf
      have hB : prsB (prL (g :: gs) p) = 161 :: g.key :: g.C.put v ++ prsB (prL gs p) := by rw [prsB, e, List.flatMap_cons]; rfl
      have ih := fun a => pairs_there F p hok R gs (pre ++ mid ++ [g]) [] (g.set q v) a (by rw [hfs]; simp) (fun f hf => by
        rw [List.append_nil] at hf
        rcases List.mem_append.1 hf with hf | hf
        · have hne : g.key ≠ f.key := by
            rcases List.mem_append.1 hf with hf | hf
            · exact (hpre f hf).symm
            · exact (hmid f hf).symm
          rw [F.other g hg f (by rw [hfs]; rcases List.mem_append.1 hf with h | h <;> simp [h]) hne q v]
          exact hq f hf
        · obtain rfl := List.mem_singleton.1 hf
          rw [F.seen f hg q v hokv, hv]) (fun f hf => by
        rw [F.other g hg f (by rw [hfs]; simp [hf]) (hrest f hf) q v]
        exact hn f (by simp [hf]))
      have e1 : 161 :: g.key :: g.C.put v ++ prsB (prL gs p) ++ R = laidQ 2 1 [g.key] ++ (g.C.put v ++ (prsB (prL gs p) ++ R)) := by rw [key_put]; simp
      rw [hB, e, List.length_cons, pairsG, e1, takeE_put 2 1 [g.key] _ a (by decide) (by decide) (by decide) (fun _ => rfl) (fun h => absurd (.inr rfl) h)]
      simp only [List.drop_left]
      rw [seek_mid g gs mid hmid]
      simp only
      rw [g.C.there v _ _ hokv]
      simp only [List.drop_left]
      have ih2 := ih (a + (laidQ 2 1 [g.key]).length + (g.C.put v).length)
      rw [List.nil_append] at ih2
      rw [ih2, key_put]
      simp only [List.length_append, List.length_cons, List.length_nil]
      congr 2
      omega

theorem pairs_back {ρ : Type} {fs : List (Fld ρ)} {zero : ρ} (F : Flds fs zero) : ∀ (n : Nat) (gs pre : List (Fld ρ)) (q p : ρ) (left : (List UInt8)) (a k : Nat), fs = pre ++ gs → okV fs q → (∀ f ∈ gs, f.view q = none) → pairsG n gs q left a = .ok (p, k) →
    okV fs p ∧ (∀ f ∈ pre, f.view p = f.view q) ∧ n = (prs (prL gs p)).length ∧ k = (prsB (prL gs p)).length ∧ ∃ R, left = prsB (prL gs p) ++ R
  | 0, gs, pre, q, p, left, a, k, hfs, hok, hn, h => by
    cases h
    have e := prs_nil q gs hn
    exact ⟨hok, fun _ _ => rfl, by rw [e]; rfl, by rw [prsB, e]; rfl, left, by rw [prsB, e]; rfl⟩
  | n + 1, gs, pre, q, p, left, a, k, hfs, hok, hn, h => by
    rw [pairsG] at h
    cases he : takeE 2 left a with
    | error f => rw [he] at h; cases h
    | ok r =>
      obtain ⟨⟨m, t⟩, k1⟩ := r
      rw [he] at h
      simp only at h
      cases hs : seek t gs with
      | none => rw [hs] at h; cases h
      | some r =>
        obtain ⟨g, rest⟩ := r
        rw [hs] at h
        simp only at h
        obtain ⟨mid, hgs, ht⟩ := seek_split t gs g rest hs
        cases hg : g.C.get (left.drop k1) (a + k1) with
        | error f => rw [hg] at h; cases h
        | ok r =>
          obtain ⟨v, k2⟩ := r
          rw [hg] at h
          simp only at h
          cases hp : pairsG n rest (g.set q v) ((left.drop k1).drop k2) (a + k1 + k2) with
          | error f => rw [hp] at h; cases h
          | ok r =>
            obtain ⟨p', k3⟩ := r
            rw [hp] at h
            cases h
            obtain ⟨c1, c2, R2, c3⟩ := g.C.back _ _ _ _ hg
            have w := takeE_was (by decide) he
            obtain ⟨R, hR⟩ := w.l
            have hgm : g ∈ fs := by rw [hfs, hgs]; simp
            have hpw := F.keys
            rw [hfs, hgs] at hpw
            have hmid : ∀ f ∈ mid, f.key ≠ g.key := fun f hf => (List.pairwise_append.1 (List.pairwise_append.1 hpw).2.1).2.2 f hf g (by simp)
            have hpre : ∀ f ∈ pre, f.key ≠ g.key := fun f hf => (List.pairwise_append.1 hpw).2.2 f hf g (by simp)
            have hrest : ∀ f ∈ rest, g.key ≠ f.key := fun f hf => (List.pairwise_cons.1 (List.pairwise_append.1 (List.pairwise_append.1 hpw).2.1).2.1).1 f hf
            have hok2 : okV fs (g.set q v) := fun f hf x hx => by
              by_cases hk : g.key = f.key
              · have hfg : f = g := by
                  rw [hfs, hgs] at hf
                  rcases List.mem_append.1 hf with hf | hf
                  · exact absurd hk.symm (hpre f hf)
                  · rcases List.mem_append.1 hf with hf | hf
                    · exact absurd hk.symm (hmid f hf)
                    · rcases List.mem_cons.1 hf with hf | hf
                      · exact hf
                      · exact absurd hk (hrest f hf)
                subst hfg
                rw [F.seen f hgm q v c1] at hx
                cases hx
                exact c1
              · rw [F.other g hgm f hf hk q v] at hx
                exact hok f hf x hx
            obtain ⟨d1, d2, d3, d4, R3, d5⟩ := pairs_back F n rest (pre ++ mid ++ [g]) (g.set q v) p _ _ _ (by rw [hfs, hgs]; simp) hok2 (fun f hf => by
              rw [F.other g hgm f (by rw [hfs, hgs]; simp [hf]) (hrest f hf) q v]
              exact hn f (by rw [hgs]; simp [hf])) hp
            have hvg : g.view p = some v := by rw [d2 g (by simp)]; exact F.seen g hgm q v c1
            have hvm : ∀ f ∈ mid, f.view p = none := fun f hf => by
              rw [d2 f (by simp [hf]), F.other g hgm f (by rw [hfs, hgs]; simp [hf]) (hmid f hf).symm q v]
              exact hn f (by rw [hgs]; simp [hf])
            have e : prs (prL gs p) = (g.key, g.C.put v) :: prs (prL rest p) := by
              rw [hgs, prs_app, prs_nil p mid hvm, List.nil_append, prs_some p g rest v hvg c1]
            have hB : prsB (prL gs p) = 161 :: g.key :: g.C.put v ++ prsB (prL rest p) := by rw [prsB, e, List.flatMap_cons]; rfl
            have hm1 : t.length = m := w.t12 (.inr rfl)
            have htl : laidQ 2 m t = [161, g.key] := by rw [← hm1, ← ht]; rfl
            refine ⟨d1, fun f hf => ?_, by rw [e, List.length_cons, d3], ?_, R3, ?_⟩
            · rw [d2 f (by simp [hf]), F.other g hgm f (by rw [hfs]; simp [hf]) (hpre f hf).symm q v]
            · rw [hB, w.k, htl, c2, d4]; simp only [List.length_append, List.length_cons, List.length_nil]; omega
            · have hk1 : k1 = 2 := by rw [w.k, htl]; rfl
              rw [htl] at hR
              subst hk1
              have h1 : left.drop 2 = R := by rw [hR]; rfl
              rw [h1] at c3 d5
              rw [c3, c2, List.drop_left] at d5
              rw [hR, c3, d5, hB]
              simp

/-- a map as a codec -/
def mapC {ρ : Type} (fs : List (Fld ρ)) (zero : ρ) (fin : ρ → Bool) (F : Flds fs zero) : Codec ρ where
  put p := mapP (prL fs p)
  ok p := okV fs p ∧ fin p = true
  get := mapG fs zero fin
  there p R a h := by
    have hl := prs_le p fs
    have h8 := F.few
    rw [mapG, mapP, List.append_assoc, show headP 4 (prs (prL fs p)).length = laidQ 4 (prs (prL fs p)).length [] from rfl, takeE_put 4 _ [] _ a (by decide) (by omega) (.inr (by omega)) (fun h => by omega) (fun _ => rfl)]
    simp only [List.drop_left]
    have ht := fun a => pairs_there F p h.1 R fs [] [] zero a rfl (fun f hf => by cases hf) F.none
    rw [List.nil_append] at ht
    rw [ht]
    simp only [List.length_append]
    exact if_pos h.2
  back left a p k h := by
    unfold mapG at h
    cases he : takeE 4 left a with
    | error f => rw [he] at h; cases h
    | ok r =>
      obtain ⟨⟨n, t⟩, k1⟩ := r
      rw [he] at h
      simp only at h
      cases hp : pairsG n fs zero (left.drop k1) (a + k1) with
      | error f => rw [hp] at h; cases h
      | ok r =>
        obtain ⟨q, k2⟩ := r
        rw [hp] at h
        simp only at h
        by_cases hf : fin q = true
        · rw [if_pos hf] at h
          cases h
          have w := takeE_was (by decide) he
          obtain ⟨R, hR⟩ := w.l
          have ht := w.t0 (by decide)
          subst ht
          obtain ⟨d1, _, d3, d4, R3, d5⟩ := pairs_back F n fs [] zero p _ _ _ rfl (fun f hf v hv => by rw [F.none f hf] at hv; cases hv) F.none hp
          refine ⟨⟨d1, hf⟩, by rw [mapP, List.length_append, d4, w.k, d3]; rfl, R3, ?_⟩
          rw [hR, w.k, List.drop_left] at d5
          rw [hR, d5, d3, mapP, List.append_assoc]
          rfl
        · rw [if_neg hf] at h; cases h
  some p _ := by rw [mapP]; simp [headP_ne]
end Go.Proofs.YtlhmmplkdjibkaaGreatDoor
/- What a field's reading is to do; row. -/
namespace Go.Proofs.YtlhmmplkdjibkaaGreatDoor
open Go.RowKit

theorem Duo.refl (A x : Nat) (w : World) : Duo A x w w := ⟨rfl, rfl, rfl, Nat.le_refl _, fun _ _ _ _ => rfl⟩
theorem Duo.trans {A x : Nat} {w w1 w2 : World} (h : Duo A x w w1) (k : Duo A x w1 w2) : Duo A x w w2 :=
  ⟨k.os.trans h.os, k.tape.trans h.tape, k.output.trans h.output, Nat.le_trans h.size k.size, fun i hi h1 h2 => (k.block i (Nat.lt_of_lt_of_le hi h.size) h1 h2).trans (h.block i hi h1 h2)⟩
theorem Duo.below {A x : Nat} {w w' : World} (h : Below w.heap.size w w') : Duo A x w w' := ⟨h.os, h.tape, h.output, h.size, fun k hk _ _ => h.block k hk⟩
theorem Duo.only {A x : Nat} {w w' : World} (h : Only A w w') : Duo A x w w' := ⟨h.os, h.tape, h.output, h.size, fun k hk h1 _ => h.block k hk h1⟩
theorem Duo.only2 {A x : Nat} {w w' : World} (h : Only x w w') : Duo A x w w' := ⟨h.os, h.tape, h.output, h.size, fun k hk _ h1 => h.block k hk h1⟩
theorem GlobU.duo {A x : Nat} {w w' : World} (h : GlobU w) (hd : Duo A x w w') (hA : 4 ≤ A) (hx : 4 ≤ x) : GlobU w' := by
  have he : 0 < w.heap.size := World.block_lt_of_cell? w _ h.e
  exact ⟨(World.cell?_of_block (a := ⟨0, 0, none⟩) (hd.block 0 he (by omega) (by omega))).trans h.e,
    Nat.lt_of_lt_of_le h.r.size hd.size, fun i j hi hj => (World.cell?_of_block (a := ⟨3, i * 5 + j, none⟩) (hd.block 3 h.r.size (by omega) (by omega))).trans (h.r.c i j hi hj)⟩

/-- what comes of a reading that answers nothing by itself: Rp: what the thing is in memory -/
def Read {ρ : Type} (rb t : Nat) (S : (List UInt8)) (Rp : ρ → World → Prop) (a : Nat) (lo : Nat) (w : World) (res : Res ρ) (e : Ending) (w' : World) : Prop := match res with
  | .ok (p, k) => e = .returned (.tuple #[]) ∧ Rp p w' ∧ RQ rb S (a + k) 10240 w' ∧ a + k ≤ S.length ∧ Duo rb t w w'
  | .error (c, b) => c ≠ 0 ∧ Up lo c b e w' ∧ Duo rb t w w' ∧ ∃ q, Rp q w'
/-- a field of a row that reads: the value, the document's field, what is read (none: nothing, which may not be) -/
structure RW (ρ : Type) where
  f : FV
  g : Fld ρ
  rd : (List UInt8) → Nat → Res (Option g.β)
/-- what is read of it -/
def RW.step {ρ : Type} (x : RW ρ) (p : ρ) (left : (List UInt8)) (a : Nat) : Res ρ := match x.rd left a with
  | .ok (some v, k) => .ok (x.g.set p v, k)
  | .ok (none, k) => .ok (p, k)
  | .error f => .error f
structure ReadF {ρ : Type} (w0 : World) (rb t : Nat) (S : (List UInt8)) (Rp : ρ → World → Prop) (x : RW ρ) : Prop where
  key : x.f.key = x.g.key
  tE : Ent x.f.tF
  rE : Ent x.f.rF
  get : ∀ left a, x.g.C.get left a = match x.rd left a with
    | .ok (some v, k) => .ok (v, k)
    | .ok (none, _) => .error (5, 0)
    | .error f => .error f
  there : ∀ w p, Duo rb t w0 w → Rp p w → Calls Tryz.prog x.f.tF x.f.tC w fun e w' => e = .returned (.bool (x.g.view p).isSome) ∧ Below w.heap.size w w'
  read : ∀ w p a, Duo rb t w0 w → GlobU w → Rp p w → x.g.view p = none → RQ rb S a 10240 w → a ≤ S.length →
    Calls Tryz.prog x.f.rF (#[.agg #[.pointer (some ⟨rb, 0, none⟩)]] ++ x.f.rC) w (Read rb t S Rp a w.heap.size w (x.step p (S.drop a) a))

/-- the first row of that key, and those behind it -/
def seekR {ρ : Type} (t : (List UInt8)) : List (RW ρ) → Option (RW ρ × List (RW ρ))
  | [] => none
  | x :: xs => if [x.g.key] = t then some (x, xs) else seekR t xs
theorem seekR_seek {ρ : Type} (t : (List UInt8)) : ∀ xs : List (RW ρ), seek t (xs.map (·.g)) = (seekR t xs).map fun r => (r.1.g, r.2.map (·.g))
  | [] => rfl
  | x :: xs => by
    rw [List.map_cons, seek, seekR]
    by_cases h : [x.g.key] = t
    · rw [if_pos h, if_pos h]; rfl
    · rw [if_neg h, if_neg h]; exact seekR_seek t xs
theorem seekR_none {ρ : Type} (t : (List UInt8)) : ∀ (xs : List (RW ρ)) (i : Nat), (∀ x ∈ xs, x.f.key = x.g.key) → seekR t xs = none → idxV (fun f => [f.key] == t) (xs.map (·.f)) i = -1
  | [], _, _, _ => rfl
  | x :: xs, i, hk, h => by
    rw [seekR] at h
    by_cases hx : [x.g.key] = t
    · rw [if_pos hx] at h; cases h
    · rw [if_neg hx] at h
      rw [List.map_cons, idxV, if_neg (by rw [hk x (by simp)]; simpa using hx)]
      exact seekR_none t xs (i + 1) (fun y hy => hk y (by simp [hy])) h
theorem seekR_some {ρ : Type} (t : (List UInt8)) : ∀ (xs : List (RW ρ)) (i : Nat) (x : RW ρ) (r : List (RW ρ)), (∀ x ∈ xs, x.f.key = x.g.key) → seekR t xs = some (x, r) → ∃ k : Nat, idxV (fun f => [f.key] == t) (xs.map (·.f)) i = ((i + k : Nat) : Int) ∧ xs[k]? = some x ∧ xs.drop (k + 1) = r
  | [], _, _, _, _, h => by cases h
  | y :: xs, i, x, r, hk, h => by
    rw [seekR] at h
    by_cases hx : [y.g.key] = t
    · rw [if_pos hx] at h
      cases h
      exact ⟨0, by rw [List.map_cons, idxV, if_pos (by rw [hk y (by simp)]; simpa using hx)]; rfl, rfl, rfl⟩
    · rw [if_neg hx] at h
      obtain ⟨k, h1, h2, h3⟩ := seekR_some t xs (i + 1) x r (fun z hz => hk z (by simp [hz])) h
      refine ⟨k + 1, ?_, by simpa using h2, by simpa using h3⟩
      rw [List.map_cons, idxV, if_neg (by rw [hk y (by simp)]; simpa using hx), h1]
      congr 1
      omega
/-- further on -/
def bump {ρ : Type} (k : Nat) : Res ρ → Res ρ
  | .ok (p, j) => .ok (p, k + j)
  | .error f => .error f
theorem bump_bump {ρ : Type} (i j : Nat) (r : Res ρ) : bump i (bump j r) = bump (i + j) r := by
  cases r with
  | error f => rfl
  | ok q => obtain ⟨p, k⟩ := q; simp [bump, Nat.add_assoc]
def finR {ρ : Type} (fin : ρ → Bool) : Res ρ → Res ρ
  | .ok (p, k) => if fin p then .ok (p, k) else .error (5, 0)
  | .error f => .error f
theorem mapG_eq {ρ : Type} (gs : List (Fld ρ)) (zero : ρ) (fin : ρ → Bool) (left : (List UInt8)) (a : Nat) : mapG gs zero fin left a = match takeE 4 left a with
    | .error f => .error f
    | .ok ((n, _), k) => finR fin (bump k (pairsG n gs zero (left.drop k) (a + k))) := by
  rw [mapG]
  cases takeE 4 left a with
  | error f => rfl
  | ok q =>
    obtain ⟨⟨n, t⟩, k⟩ := q
    simp only
    cases pairsG n gs zero (left.drop k) (a + k) with
    | error f => rfl
    | ok q => obtain ⟨p, k2⟩ := q; rfl
/-- one pair -/
theorem pairsG_step {ρ : Type} (n : Nat) (xs : List (RW ρ)) (p : ρ) (left : (List UInt8)) (a : Nat) : pairsG (n + 1) (xs.map (·.g)) p left a = match takeE 2 left a with
    | .error f => .error f
    | .ok ((_, t), k) => match seekR t xs with
      | none => .error (5, 0)
      | some (x, r) => match x.g.C.get (left.drop k) (a + k) with
        | .error f => .error f
        | .ok (v, k2) => bump (k + k2) (pairsG n (r.map (·.g)) (x.g.set p v) (left.drop (k + k2)) (a + (k + k2))) := by
  rw [pairsG]
  cases takeE 2 left a with
  | error f => rfl
  | ok q =>
    obtain ⟨⟨m, t⟩, k⟩ := q
    simp only
    rw [seekR_seek]
    cases seekR t xs with
    | none => rfl
    | some r =>
      obtain ⟨x, r⟩ := r
      simp only [Option.map_some]
      cases x.g.C.get (left.drop k) (a + k) with
      | error f => rfl
      | ok q =>
        obtain ⟨v, k2⟩ := q
        simp only [List.drop_drop, Nat.add_assoc]
        cases pairsG n (r.map (·.g)) (x.g.set p v) (left.drop (k + k2)) (a + (k + k2)) with
        | error f => rfl
        | ok q => obtain ⟨p', k3⟩ := q; simp [bump, Nat.add_assoc]
end Go.Proofs.YtlhmmplkdjibkaaGreatDoor
