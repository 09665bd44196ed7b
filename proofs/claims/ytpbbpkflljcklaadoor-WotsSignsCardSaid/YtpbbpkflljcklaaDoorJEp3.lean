/- The steps of a chain, as an iterator that hands them over. -/
import Derived.Test.YtpbbpkflljcklaaDoorJEp2
import Derived.Test.YtpbbpkflljcklaaDoorJAc
import Derived.Laws.EntriesVeiled
namespace Go.Proofs.YtpbbpkflljcklaaDoor
open Go.RowKit

/-- what the iterator's boxes hold -/
def StepsOk (bx bb ba bi : Nat) (i a b : Nat) (x : (List UInt8)) (W : World) : Prop :=
  (W.cell? ⟨bx, 0, none⟩ = some (.string ⟨x.toArray⟩) ∧ W.cell? ⟨bb, 0, none⟩ = some (.int .i64 (b : Int)) ∧ W.cell? ⟨ba, 0, none⟩ = some (.int .i64 (a : Int)) ∧ W.cell? ⟨bi, 0, none⟩ = some (.int .i64 (i : Int))) ∧ Glob W
theorem StepsOk.next {bx bb ba bi i a b : Nat} {x : (List UInt8)} {W W' : World} (h : StepsOk bx bb ba bi i a b x W) (hb : Below W.heap.size W W') : StepsOk bx bb ba bi i a b x W' := by
  obtain ⟨⟨h1, h2, h3, h4⟩, hg⟩ := h
  exact ⟨⟨(hb.cell (World.block_lt_of_cell? W _ h1)).trans h1, (hb.cell (World.block_lt_of_cell? W _ h2)).trans h2, (hb.cell (World.block_lt_of_cell? W _ h3)).trans h3, (hb.cell (World.block_lt_of_cell? W _ h4)).trans h4⟩, hg.below hg.size hb⟩
theorem kept_below {W W' : World} (h : Below W.heap.size W W') : Kept (fun _ => True) W W' := ⟨h.os, h.tape, h.output, h.size, fun j hj _ => h.block j hj⟩
set_option maxRecDepth 100000 in
set_option maxHeartbeats 2000000 in
theorem steps_hands (bx bb ba bi : Nat) (i a b : Nat) (x : (List UInt8)) (hi : i ≤ 66) (hab : a ≤ b) (hb : b ≤ 15) (hx : x.length ≤ 10000000) : HandsRead Tryd.prog 46 #[.pointer (some ⟨bx, 0, none⟩), .pointer (some ⟨ba, 0, none⟩), .pointer (some ⟨bb, 0, none⟩), .pointer (some ⟨bi, 0, none⟩)] (fun k => #[.string ⟨(walkF i a (k + 1) x).toArray⟩]) (b - a)
      (StepsOk bx bb ba bi i a b x) := by
  rintro l J W hok hY h0
  have HY := Lib.hid hY
  have HJ0 := Lib.hid h0
  have HOK := Lib.hid hok
  have HWL := Lib.hid (walkF_len i a x hx)
  obtain ⟨⟨c1, c2, c3, c4⟩, -⟩ := hok
  clear hY h0 hx
  refine (callsIn_wide (n := 1)).1 ?_
  refine callsIn_of_wp Tryd.func46 rfl trivial ?_ rfl
  simp only [Tryd.ntmps46, List.size_toArray, List.length_cons, List.length_nil, Nat.reduceAdd, Nat.reduceSub, Array.replicate_succ, Array.replicate_zero, List.push_toArray, List.append_toArray, List.nil_append, List.cons_append]
  gi_wp2
  clear c1 c2 c3 c4
  gi_loopw [6, 7] (fun v6 v7 wr => ∃ n : Nat, a + n ≤ b ∧ v7 = .int .i64 ((a + n : Nat) : Int) ∧ v6 = .string ⟨(walkF i a n x).toArray⟩ ∧ Hid (∃ W1, J n W1 ∧ Kept (fun _ => True) W1 wr) ∧ Hid (StepsOk bx bb ba bi i a b x wr)) (fun _ v7 _ => b - (intOf v7).toNat)
  case atStart => exact ⟨0, hab, rfl, rfl, Lib.hid ⟨W, HJ0.out, Kept.refl _ _⟩, HOK⟩
  case round =>
    obtain ⟨n, hn, rfl, rfl, HJ, HC⟩ := hrel
    obtain ⟨⟨c1, c2, c3, c4⟩, hg⟩ := HC.out
    by_cases hlt : a + n < b
    · have hl : ((a + n : Nat) : Int) < (b : Int) := by omega
      have HL := Lib.hid (HWL.out n)
      have HNX := Lib.hid (show walkF i a (n + 1) x = hashL chainT [[UInt8.ofNat i], [UInt8.ofNat (a + n)], walkF i a n x] from rfl)
      have HLT := Lib.hid (show n < b - a by omega)
      have HGG := Lib.hid hg
      generalize walkF i a n x = X at *
      generalize hK : a + n = K at *
      have HK := Lib.hid hK
      have HO1 := Lib.hid (fun w => oneByte_calls i (by omega) w)
      have HO2 := Lib.hid (fun w => oneByte_calls K (by omega) w)
      clear hK hg
      gi_wp2
      refine ⟨trivial, (callsIn_wide.2 (HO1.out wr)).mono ?_⟩
      rintro e w1 ⟨rfl, hb1⟩
      have HB1 := Lib.hid hb1
      clear hb1 c1 c2 c3 c4
      gi_wp2
      refine ⟨trivial, (callsIn_wide.2 (HO2.out w1)).mono ?_⟩
      rintro e w2 ⟨rfl, hb2⟩
      have HB2 := Lib.hid (below_next HB1.out hb2)
      clear hb2 HB1
      gi_wp2
      have HH := Lib.hid (hash3_any chainT [UInt8.ofNat i] [UInt8.ofNat K] X w2 (HGG.out.below HGG.out.size HB2.out) (by decide) (by simp) (by simp) HL.out)
      rw [← HNX.out] at HH
      refine ⟨trivial, (callsIn_wide.2 HH.out).mono ?_⟩
      rintro e w3 ⟨rfl, hb3⟩
      have HB3 := Lib.hid (below_next HB2.out hb3)
      clear hb3 HB2
      obtain ⟨W1, hj1, hk1⟩ := HJ.out
      have HY2 := HY.out n W1 w3 HLT.out hj1 (hk1.trans (kept_below HB3.out))
      clear hj1 hk1
      obtain ⟨fn, tmps, assign, body, hy, hR⟩ := HY2
      gi_wp2
      refine hR.mono ?_
      rintro e w4 ⟨rfl, hj2, hok2⟩
      have HJ2 := Lib.hid hj2
      have HO2 := Lib.hid hok2
      clear hR hy hj2 hok2
      gi_wp2
      go_roundw
      case rel => exact ⟨n + 1, by have := HK.out; omega, by have := HK.out; rw [← this]; go_num, rfl, Lib.hid ⟨w4, HJ2.out, Kept.refl _ _⟩, HO2⟩
      case measure => have := HK.out; simp [intOf]; omega
    · have hl : ¬ ((a + n : Nat) : Int) < (b : Int) := by omega
      have HJN := Lib.hid (show ∃ W1, J (b - a) W1 ∧ Kept (fun _ => True) W1 wr by rw [show b - a = n by omega]; exact HJ.out)
      clear hg
      gi_wp2
      go_end0
      exact ⟨⟨_, rfl⟩, HJN.out⟩
end Go.Proofs.YtpbbpkflljcklaaDoor
