/- A number laid in a row's way, behind what lies already. -/
import Derived.Test.YtgdlfbphfogphaaDoorPw
import Derived.Lib.AppendStr
namespace Go.Proofs.YtgdlfbphfogphaaDoor
open Go.RowKit

/-- the bytes of a text, as memory has them -/
def byV (L : List UInt8) : List Value := L.map fun b => .int .u8 (b.toNat : Int)
theorem byV_len (L : List UInt8) : (byV L).length = L.length := List.length_map ..
theorem byV_cat (L M : List UInt8) : byV (L ++ M) = byV L ++ byV M := List.map_append ..
theorem Tryd.info5b : ∃ i0, Tryd.prog.info? 5 = some i0 ∧ i0.zero = some (.int .u8 0) ∧ i0.size = 1 ∧ i0.bytes = 1 := info_parts Tryd.info5
theorem one_cell {wr wa : World} {v : Value} (hc : wa.cell? ⟨wr.heap.size, 0, none⟩ = some v) : ∀ (j : Nat) (u : Value), [v][j]? = some u → wa.cell? ((⟨wr.heap.size, 0, none⟩ : Addr).add j) = some u := by
  intro j u hj
  match j, hj with
  | 0, hj => simp at hj; subst hj; simpa [Addr.add] using hc

/-- append of one byte to the bytes that lie so far -/
theorem append_byte {ops : Array Oper} {rest : List Oper} {o : Oper} {a : Act} {Q : Exit → Act → World → Prop} {wr : World} {base : Nat} {L : List UInt8} {v : Value} {c : Int} {n : Nat} (b : UInt8) (N : Nat) (hN : wr.heap.size = N) (hgd : o.guard = none) (s x : Operand)
    (ho : o.op = .call { callee := .builtin .append, args := #[s, x], argTypes := #[48, 48] })
    (hs : a.eval s = v) (hx : a.eval x = .slice (some ⟨N, 0, none⟩) 1 1) (hn : L.length = n) (hown : wr.ownsRow base 5 1 v n (byV L)) (hc : c = (b.toNat : Int)) (hm : n ≤ 100000000) (h0 : base ≤ wr.heap.size)
    (h : ∀ v' w', w'.ownsRow base 5 1 v' (n + 1) (byV (L ++ [b])) → Below base wr w' → (∀ k, k < wr.heap.size → v.ownBlock ≠ some k → w'.heap[k]? = wr.heap[k]?) → wpList Tryd.prog ops Q rest (a.put o.dst v') w') :
    wpList Tryd.prog ops Q (o :: rest) a (wr.alloc (.cells #[.int .u8 c] 5)) := by
  subst hN
  obtain ⟨i0, hi, hz0, hz1, hz2⟩ := Tryd.info5b
  refine wpList_append_own _ hgd s x 48 ho base 5 i0 (.int .u8 0) 1 1 Tryd.underlying48 hi hz0 hz1 hz2 rfl (by decide) v n _ hs (hown.alloc _) ⟨wr.heap.size, 0, none⟩ 1 1 [.int .u8 c] hx rfl ?_ ?_ (by unfold maxLen; omega) (by omega) (by rw [World.size_alloc]; omega) ?_
  · exact one_cell ((lit_cell (heap_alloc_new wr _) 0).trans rfl)
  · intro u hu; simp at hu; subst hu; rfl
  · intro v' w' hown' hg _
    have e : byV L ++ [.int .u8 c] = byV (L ++ [b]) := by rw [byV_cat, hc]; rfl
    rw [e] at hown'
    exact h v' w' hown' (((Below.refl _ _).alloc h0 _).grown hg (by rw [World.size_alloc]; omega) (fun k e => (hown.lt k e).1))
      (fun k hk hne => (hg.block k (by rw [World.size_alloc]; omega) (fun e => hne e.symm)).trans (heap_alloc_old _ _ hk))

/-- a number laid in a row's way -/
def rowP (r : RowP) (n : Nat) : List UInt8 := if r.size = 0 then [UInt8.ofNat (r.f + n)] else UInt8.ofNat r.f :: be n r.size
theorem be_cut (n : Nat) : ∀ k, k ≤ 8 → be n (k + 1) = UInt8.ofNat (n / 256 ^ k) :: be n k := fun _ _ => rfl

set_option maxRecDepth 100000 in
set_option maxHeartbeats 1000000 in
theorem head_any (r : RowP) (n : Nat) (base : Nat) (v : Value) (L : List UInt8) (w : World) (hr : r.size ≤ 8) (hf : r.f < 256) (hfn : r.size = 0 → r.f + n < 256) (hn : n < 18446744073709551616) (hL : L.length ≤ 50000000)
    (hown : w.ownsRow base 5 1 v L.length (byV L)) (h0 : base ≤ w.heap.size) :
    Calls Tryd.prog 39 #[.agg (rowV r).toArray, v, .int .u64 (n : Int)] w fun e w' => ∃ v', e = .returned v' ∧ w'.ownsRow base 5 1 v' (L ++ rowP r n).length (byV (L ++ rowP r n)) ∧ Below base w w' := by
  obtain ⟨rs, rl, rf, rz⟩ := r
  have hf : rf < 256 := hf
  have hfn : rz = 0 → rf + n < 256 := hfn
  have hr : rz ≤ 8 := hr
  have ho1 := hown.alloc (.cells #[.int .i64 rs, .int .u64 (rl : Int), .int .u8 (rf : Int), .int .i64 (rz : Int)] 70)
  have hb1 : Below base w (w.alloc (.cells #[.int .i64 rs, .int .u64 (rl : Int), .int .u8 (rf : Int), .int .i64 (rz : Int)] 70)) := (Below.refl _ _).alloc h0 _
  have hz1 : base ≤ (w.alloc (.cells #[.int .i64 rs, .int .u64 (rl : Int), .int .u8 (rf : Int), .int .i64 (rz : Int)] 70)).heap.size := by rw [World.size_alloc]; omega
  have hcz := fun i => lit_cell (heap_alloc_new w (.cells #[.int .i64 rs, .int .u64 (rl : Int), .int .u8 (rf : Int), .int .i64 (rz : Int)] 70)) i
  have hne : v.ownBlock ≠ some w.heap.size := fun e => by have := (hown.lt _ e).2; omega
  clear hown
  by_cases hz : rz = 0
  · subst hz
    have hn' := hfn rfl
    have e0 : rowP ⟨rs, rl, rf, 0⟩ n = [UInt8.ofNat (rf + n)] := rfl
    rw [e0]
    have hc : (rf : Int) + (n : Int) = ((UInt8.ofNat (rf + n)).toNat : Int) := by rw [UInt8.toNat_ofNat']; omega
    obtain ⟨c, hcc⟩ : ∃ c, UInt8.ofNat (rf + n) = c := ⟨_, rfl⟩
    rw [hcc] at hc ⊢
    have HC := Lib.hid hc
    clear hc hcz hcc
    show Calls _ _ #[.agg #[.int .i64 rs, .int .u64 (rl : Int), .int .u8 (rf : Int), .int .i64 0], v, _] _ _
    go_enter Tryd.func39, Tryd.ntmps39
    go_wp2_with (at_builtin; refine append_byte c (w.heap.size + 1) (by simp) rfl _ _ rfl rfl rfl rfl ho1 HC.out (by omega) hz1 ?_)
    intro v' w1 ho2 hb2 _
    go_wp2
    go_ret
    exact ⟨v', rfl, by rw [List.length_append]; exact ho2, hb1.trans hb2⟩
  · have e0 : rowP ⟨rs, rl, rf, rz⟩ n = UInt8.ofNat rf :: be n rz := if_neg hz
    rw [e0]
    have HC := Lib.hid (show (rf : Int) = ((UInt8.ofNat rf).toNat : Int) by rw [UInt8.toNat_ofNat']; omega)
    have e1 : ((rz : Int) == 0) = false := by rw [beq_eq_false_iff_ne]; omega
    have HZ := Lib.hid (show 0 < rz ∧ rz ≤ 8 by omega)
    clear hz hr hfn e0
    show Calls _ _ #[.agg #[.int .i64 rs, .int .u64 (rl : Int), .int .u8 (rf : Int), .int .i64 (rz : Int)], v, _] _ _
    have c3 := (hcz 3).trans rfl
    go_enter Tryd.func39, Tryd.ntmps39
    go_wp2_with (at_builtin; refine append_byte (UInt8.ofNat rf) (w.heap.size + 1) (by simp) rfl _ _ rfl rfl rfl rfl ho1 HC.out (by omega) hz1 ?_)
    intro v1 w1 ho2 hb2 hk2
    have c4 := (lit_cell ((hk2 w.heap.size (by simp) hne).trans (heap_alloc_new _ _)) 3).trans rfl
    have hb3 := hb1.trans hb2
    clear hb1 hb2 hk2 c3 hz1 ho1
    go_wp2
    have HL := Lib.hid hL
    clear e1 c4 hL
    go_loopw [1, 7] (fun v i wr => ∃ j : Nat, ∃ D : List UInt8, j ≤ rz ∧ Hid (D ++ be n j = be n rz) ∧ D.length = rz - j ∧ i = .int .i64 ((j : Int) - 1) ∧ wr.ownsRow base 5 1 v (L.length + 1 + D.length) (byV ((L ++ [UInt8.ofNat rf]) ++ D)) ∧ base ≤ wr.heap.size ∧ Below base w wr)
      (fun _ i _ => ((intOf i) + 1).toNat)
    case atStart => exact ⟨rz, [], Nat.le_refl _, Lib.hid rfl, by simp, by go_num, by simpa using ho2, by have := hb3.size; omega, hb3⟩
    case round =>
      obtain ⟨j, D, hj, HD, hDl, rfl, hown, hz, hbe⟩ := hrel
      cases j with
      | zero =>
        have hD : D = be n rz := by have := HD.out; rwa [be, List.append_nil] at this
        rw [hD, List.append_assoc] at hown
        have hl : L.length + 1 + (be n rz).length = (L ++ UInt8.ofNat rf :: be n rz).length := by simp; omega
        rw [hl] at hown
        go_wp2
        go_ret
        exact ⟨_, rfl, hown, hbe⟩
      | succ k =>
        have a1 : ((k + 1 : Nat) : Int) - 1 = (k : Int) := by omega
        have hq : (n : Int) / 2 ^ (8 * k) % 256 = ((UInt8.ofNat (n / 256 ^ k)).toNat : Int) := by
          rw [← byte_mod, show (2 : Int) ^ (8 * k) = ((256 ^ k : Nat) : Int) by rw [Int.pow_mul]; push_cast; rfl]
          push_cast
          rfl
        rw [a1]
        have HQ := Lib.hid hq
        have HD2 := Lib.hid (show (D ++ [UInt8.ofNat (n / 256 ^ k)]) ++ be n k = be n rz by rw [← HD.out, List.append_assoc]; rfl)
        obtain ⟨c, hcc⟩ : ∃ c, UInt8.ofNat (n / 256 ^ k) = c := ⟨_, rfl⟩
        rw [hcc] at HQ HD2
        clear hq hcc a1
        have hll : ((L ++ [UInt8.ofNat rf]) ++ D).length = L.length + 1 + D.length := by simp; omega
        have HLL := Lib.hid hll
        have HM := Lib.hid (show L.length + 1 + D.length ≤ 100000000 by have := HL.out; have := HZ.out; omega)
        clear hll
        go_wp2_with (at_builtin; refine append_byte c wr.heap.size rfl rfl _ _ rfl rfl rfl HLL.out hown HQ.out HM.out hz ?_)
        intro v2 w2 hown2 hb2 _
        go_wp2
        go_roundw
        case rel =>
          have e : L.length + 1 + (D ++ [c]).length = L.length + 1 + (rz - (k + 1)) + 1 := by simp; omega
          refine ⟨k, D ++ [c], by omega, HD2, by simp; omega, by go_num, ?_, by have := hb2.size; omega, hbe.trans hb2⟩
          rw [e]
          simpa using hown2
        case measure => simp [intOf] <;> omega
end Go.Proofs.YtgdlfbphfogphaaDoor
