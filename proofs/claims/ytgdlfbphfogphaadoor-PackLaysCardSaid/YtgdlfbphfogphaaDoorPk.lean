/- What a writer is to do, as a hypothesis; the law's lay and laid from it. -/
import Derived.Test.YtgdlfbphfogphaaDoorPg
import Derived.Deep.Cut
namespace Go.Proofs.YtgdlfbphfogphaaDoor
open Go.RowKit

/-- the beginning of a list or a map of i things -/
def listP (s i : Int) : List UInt8 × Int := if i < 0 then ([], 2) else if 65536 ≤ i then ([], 3) else (headP s i.toNat, 0)
/-- the writer's calls; G: what the program's own tables want of memory; Wr B b L w: at block b lies a writer whose bytes are L, and all of its memory lies from block B on -/
structure PackC (G : World → Prop) (Wr : Nat → Nat → List UInt8 → World → Prop) : Prop where
  gb : ∀ {w w' : World}, G w → Below w.heap.size w w' → G w'
  next : ∀ {B b : Nat} {L : List UInt8} {w w' : World}, Wr B b L w → Below w.heap.size w w' → Wr B b L w'
  size : ∀ {B b : Nat} {L : List UInt8} {w : World}, Wr B b L w → B ≤ w.heap.size
  new : ∀ w, G w → Calls Tryd.prog 8 #[] w fun e w' => ∃ b, e = .returned (.pointer (some ⟨b, 0, none⟩)) ∧ Wr w.heap.size b [] w' ∧ Below w.heap.size w w'
  num : ∀ B b L (n : Nat) w, Wr B b L w → L.length < 10000000 → n < 18446744073709551616 →
    Calls Tryd.prog 15 #[.pointer (some ⟨b, 0, none⟩), .int .u64 (n : Int)] w fun e w' => e = .returned (.int .i64 0) ∧ Wr B b (L ++ numP n) w' ∧ Below B w w'
  bin : ∀ B b L (T : List UInt8) w, Wr B b L w → L.length < 10000000 → T.length < 10000000 →
    Calls Tryd.prog 22 #[.pointer (some ⟨b, 0, none⟩), .string ⟨T.toArray⟩] w fun e w' => e = .returned (.int .i64 (laidP 1 0 T).2) ∧ Wr B b (L ++ (laidP 1 0 T).1) w' ∧ Below B w w' ∧ ((laidP 1 0 T).2 ≠ 0 → Below w.heap.size w w')
  str : ∀ B b L (T : List UInt8) w, Wr B b L w → L.length < 10000000 → T.length < 10000000 →
    Calls Tryd.prog 23 #[.pointer (some ⟨b, 0, none⟩), .string ⟨T.toArray⟩] w fun e w' => e = .returned (.int .i64 (laidP 2 0 T).2) ∧ Wr B b (L ++ (laidP 2 0 T).1) w' ∧ Below B w w' ∧ ((laidP 2 0 T).2 ≠ 0 → Below w.heap.size w w')
  list : ∀ B b L (i : Int) w, Wr B b L w → L.length < 10000000 → -9223372036854775808 ≤ i → i ≤ 9223372036854775807 →
    Calls Tryd.prog 20 #[.pointer (some ⟨b, 0, none⟩), .int .i64 i] w fun e w' => e = .returned (.int .i64 (listP 3 i).2) ∧ Wr B b (L ++ (listP 3 i).1) w' ∧ Below B w w' ∧ ((listP 3 i).2 ≠ 0 → Below w.heap.size w w')
  map : ∀ B b L (i : Int) w, Wr B b L w → L.length < 10000000 → -9223372036854775808 ≤ i → i ≤ 9223372036854775807 →
    Calls Tryd.prog 21 #[.pointer (some ⟨b, 0, none⟩), .int .i64 i] w fun e w' => e = .returned (.int .i64 (listP 4 i).2) ∧ Wr B b (L ++ (listP 4 i).1) w' ∧ Below B w w' ∧ ((listP 4 i).2 ≠ 0 → Below w.heap.size w w')
  text : ∀ B b L w, Wr B b L w → L.length < 10000000 → Calls Tryd.prog 13 #[.pointer (some ⟨b, 0, none⟩)] w fun e w' => e = .returned (.string ⟨L.toArray⟩) ∧ Below w.heap.size w w'
  len : ∀ B b L w, Wr B b L w → L.length < 10000000 → Calls Tryd.prog 12 #[.pointer (some ⟨b, 0, none⟩)] w fun e w' => e = .returned (.int .i64 (L.length : Int)) ∧ Below w.heap.size w w'

theorem by0 (w : World) (o : Obj) : Below w.heap.size w (w.alloc o) := (Below.refl _ _).alloc (Nat.le_refl _) _
theorem laidP_text (s : Int) (n n2 : Nat) (T : List UInt8) (h : s = 1 ∨ s = 2) : laidP s n T = laidP s n2 T := laidP_alike s n n2 T T (by rw [if_pos h])
theorem laidP_num (n : Nat) (T : List UInt8) : laidP 0 n T = (numP n, 0) := rfl
theorem laidP_list (s : Int) (n : Nat) (T : List UInt8) (hn : n < 18446744073709551616) (h : s ≠ 0) (h1 : s ≠ 1) (h2 : s ≠ 2) (t : Int) (ht : ∀ n, headP s n = headP t n) : laidP s n T = listP t (IntKind.i64.wrap (n : Int)) := by
  have hw : IntKind.i64.wrap (n : Int) = if 9223372036854775808 ≤ n then (n : Int) - 18446744073709551616 else (n : Int) := by
    rw [IntWalk.i64_left]; unfold wrap64; split <;> omega
  have h12 : ¬ (s = 1 ∨ s = 2) := by omega
  rw [laidP, if_neg h, if_neg h12, listP, hw]
  by_cases hb : 9223372036854775808 ≤ n
  · rw [if_pos hb, if_pos hb, if_pos (show (n : Int) - 18446744073709551616 < 0 by omega)]
  · have e1 : ¬ (n : Int) < 0 := by omega
    rw [if_neg hb, if_neg hb, if_neg e1]
    by_cases hl : 65536 ≤ n
    · rw [if_pos hl, if_pos (show (65536 : Int) ≤ (n : Int) by omega)]
    · rw [if_neg hl, if_neg (show ¬ (65536 : Int) ≤ (n : Int) by omega), ht, Int.toNat_natCast]

set_option maxRecDepth 100000 in
set_option maxHeartbeats 4000000 in
theorem play_any {G : World → Prop} {Wr : Nat → Nat → List UInt8 → World → Prop} (C : PackC G Wr) (B b : Nat) (L : List UInt8) (s : Int) (n : Nat) (S : List UInt8) (z : Nat) (w : World) (hW : Wr B b L w) (hL : L.length < 9000000)
    (hn : n < 18446744073709551616) (hS : S.length ≤ 9223372036854775807) (hz : z < 4294967296) :
    Calls Tryd.prog 9 #[.pointer (some ⟨b, 0, none⟩), .agg #[.int .i64 s, .int .u64 (n : Int), .string ⟨S.toArray⟩, .int .u32 (z : Int)]] w fun e w' =>
      e = .returned (.int .i64 (laidP s n (textP S z)).2) ∧ Wr B b (L ++ (laidP s n (textP S z)).1) w' ∧ Below B w w' := by
  have HT := Lib.hid (fun w => ptext_any s n S z w hS hz)
  have hTl := textP_len S z
  generalize textP S z = T at *
  have hsz := C.size hW
  have HW1 := Lib.hid (C.next hW (by0 w (.cells #[.int .i64 s, .int .u64 (n : Int), .string ⟨S.toArray⟩, .int .u32 (z : Int)] 30)))
  have hb1 : Below B w (w.alloc (.cells #[.int .i64 s, .int .u64 (n : Int), .string ⟨S.toArray⟩, .int .u32 (z : Int)] 30)) := (Below.refl _ _).alloc hsz _
  clear hS hz hW
  by_cases h0 : s = 0
  · subst h0
    have HC := Lib.hid (C.num B b L n _ HW1.out (by omega) hn)
    rw [laidP_num]
    go_enter Tryd.func9, Tryd.ntmps9
    go_wp2_with (go_at_call 15; refine HC.out.mono ?_; rintro e w2 ⟨rfl, hW2, hb2⟩)
    go_ret
    exact ⟨rfl, hW2, hb1.trans hb2⟩
  · have z0 : (s == 0) = false := beq_eq_false_iff_ne.2 h0
    by_cases h1 : s = 1
    · subst h1
      rw [laidP_text 1 n 0 T (.inl rfl)]
      go_enter Tryd.func9, Tryd.ntmps9
      go_wp2_with (go_at_call 11; refine (HT.out _).mono ?_; rintro e w2 ⟨rfl, hb2⟩)
      refine (C.bin B b L T w2 (C.next HW1.out hb2) (by omega) (by omega)).mono ?_
      rintro e w3 ⟨rfl, hW3, hb3, _⟩
      have hb4 := hb1.trans ((hb2.mono (Nat.le_trans hsz hb1.size)).trans hb3)
      go_wp2
      go_ret
      exact ⟨rfl, hW3, hb4⟩
    · have z1 : (s == 1) = false := beq_eq_false_iff_ne.2 h1
      by_cases h2 : s = 2
      · subst h2
        rw [laidP_text 2 n 0 T (.inr rfl)]
        go_enter Tryd.func9, Tryd.ntmps9
        go_wp2_with (go_at_call 11; refine (HT.out _).mono ?_; rintro e w2 ⟨rfl, hb2⟩)
        refine (C.str B b L T w2 (C.next HW1.out hb2) (by omega) (by omega)).mono ?_
        rintro e w3 ⟨rfl, hW3, hb3, _⟩
        have hb4 := hb1.trans ((hb2.mono (Nat.le_trans hsz hb1.size)).trans hb3)
        go_wp2
        go_ret
        exact ⟨rfl, hW3, hb4⟩
      · have z2 : (s == 2) = false := beq_eq_false_iff_ne.2 h2
        have hr : -9223372036854775808 ≤ IntKind.i64.wrap (n : Int) ∧ IntKind.i64.wrap (n : Int) ≤ 9223372036854775807 := by rw [IntWalk.i64_left]; unfold wrap64; omega
        obtain ⟨i, hi⟩ : ∃ i, IntKind.i64.wrap (n : Int) = i := ⟨_, rfl⟩
        by_cases h3 : s = 3
        · have HC := Lib.hid (C.list B b L i _ HW1.out (by omega) (hi ▸ hr.1) (hi ▸ hr.2))
          rw [laidP_list s n T hn h0 h1 h2 3 (fun n => by rw [h3]), hi]
          subst h3
          clear hr hn
          go_enter Tryd.func9, Tryd.ntmps9
          go_wp2_with (go_at_call 20; refine HC.out.mono ?_; rintro e w2 ⟨rfl, hW2, hb2, _⟩)
          go_ret
          exact ⟨rfl, hW2, hb1.trans hb2⟩
        · have z3 : (s == 3) = false := beq_eq_false_iff_ne.2 h3
          have HC := Lib.hid (C.map B b L i _ HW1.out (by omega) (hi ▸ hr.1) (hi ▸ hr.2))
          rw [laidP_list s n T hn h0 h1 h2 4 (fun n => by rw [headP, headP, if_neg h1, if_neg h2, if_neg h3]; rfl), hi]
          clear hr hn h0 h1 h2 h3
          go_enter Tryd.func9, Tryd.ntmps9
          go_wp2_with (go_at_call 21; refine HC.out.mono ?_; rintro e w2 ⟨rfl, hW2, hb2, _⟩)
          go_ret
          exact ⟨rfl, hW2, hb1.trans hb2⟩
end Go.Proofs.YtgdlfbphfogphaaDoor
