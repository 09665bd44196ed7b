/- A frame: its size, its parts, and the frame itself, as the words say, by the program. -/
import Derived.Test.YtdobmhbfadijoaaDoorDa
import Derived.Test.YtdobmhbfadijoaaDoorSh
import Derived.Test.YtdobmhbfadijoaaDoorBd
namespace Go.Proofs.YtdobmhbfadijoaaDoor
open Go.RowKit

/-- a part behind its eight bytes of size -/
def partL (p : List UInt8) : List UInt8 := numL p.length ++ p
/-- the frame of a tag and some parts -/
def framed (tag : List UInt8) (ps : List (List UInt8)) : List UInt8 := UInt8.ofNat tag.length :: (tag ++ ps.flatMap partL)
theorem partL_length (p : List UInt8) : (partL p).length = 8 + p.length := by rw [partL, List.length_append, numL_length]
theorem framed_nil (tag : List UInt8) : framed tag [] = UInt8.ofNat tag.length :: tag := by simp [framed]
theorem framed_snoc (tag : List UInt8) (L : List (List UInt8)) (k : Nat) (h : k < L.length) : framed tag (L.take (k + 1)) = framed tag (L.take k) ++ partL L[k] := by
  rw [framed, framed, List.take_succ_eq_append_getElem h, List.flatMap_append]; simp
theorem framed_len (tag : List UInt8) (L : List (List UInt8)) (k : Nat) (h : k < L.length) : (framed tag (L.take (k + 1))).length = (framed tag (L.take k)).length + (8 + L[k].length) := by
  rw [framed_snoc tag L k h, List.length_append, partL_length]
theorem framed_mono (tag : List UInt8) (L : List (List UInt8)) : ∀ k, (framed tag (L.take k)).length ≤ (framed tag L).length := by
  intro k
  have e : L = L.take k ++ L.drop k := (List.take_append_drop k L).symm
  have h : framed tag L = framed tag (L.take k) ++ (L.drop k).flatMap partL := by
    rw [framed, framed]
    conv => lhs; rw [e, List.flatMap_append]
    simp
  rw [h, List.length_append]; omega
theorem framed_count (tag : List UInt8) (L : List (List UInt8)) : ∀ k, k ≤ L.length → 8 * k + tag.length + 1 ≤ (framed tag (L.take k)).length
  | 0, _ => by rw [List.take_zero, framed_nil]; simp
  | k + 1, h => by
    rw [framed_len tag L k (by omega)]
    have := framed_count tag L k (by omega)
    omega

theorem isBuilder_below {T e : TypeId} {B b : Nat} {bs : List Value} {w w' : World} (h : Lib.IsBuilder T e B b bs w) (hb : Below w.heap.size w w') : Lib.IsBuilder T e B b bs w' := by
  have key : ∀ p, Lib.BuilderAt T e B b p bs w → Lib.BuilderAt T e B b p bs w' := by
    rintro p ⟨h1, v, h2, ⟨h3, h4⟩, h5⟩
    refine ⟨h1, v, (hb.block b (Array.getElem?_eq_some_iff.1 h2).1).trans h2, ⟨h3, ?_⟩, h5⟩
    rcases h4 with h4 | ⟨g, cap, cur, e1, e2, e3, e4⟩
    · exact .inl h4
    · exact .inr ⟨g, cap, cur, e1, e2, (hb.block g (Array.getElem?_eq_some_iff.1 e3).1).trans e3, e4⟩
  exact h.elim (fun x => .inl (key _ x)) (fun x => .inr (key _ x))

set_option maxRecDepth 100000 in
set_option maxHeartbeats 1000000 in
theorem frameSize_any (tag : List UInt8) (ao : Option Addr) (cap : Nat) (L : List (List UInt8)) (w : World) (hs : Strs ao L w) (hlen : (framed tag L).length < 100000000000) :
    Calls Tryd.prog 28 #[.string ⟨tag.toArray⟩, .slice ao L.length cap] w fun e w' => e = .returned (.int .i64 ((framed tag L).length : Int)) ∧ w = w' := by
  have HS := Lib.hid hs
  clear hs
  have hc := framed_count tag L L.length (Nat.le_refl _)
  rw [List.take_length] at hc
  go_enter Tryd.func28, Tryd.ntmps28
  go_wp2
  go_loop [5, 7, 13] (fun v _ i => ∃ k m : Nat, k ≤ L.length ∧ i = .int .i64 (k : Int) ∧ v = .int .i64 (m : Int) ∧ Hid ((framed tag (L.take k)).length = m)) (fun _ _ i => L.length - (intOf i).toNat)
  case atStart => exact ⟨0, 1 + tag.length, by omega, rfl, by go_num, Lib.hid (by rw [List.take_zero, framed_nil]; simp; omega)⟩
  case round =>
    obtain ⟨k, m, hk, rfl, rfl, HM⟩ := hrel
    have hm1 := framed_mono tag L k
    rw [HM.out] at hm1
    by_cases hlt : k < L.length
    · obtain ⟨b, off, rfl, hcell⟩ := HS.out.cell k hlt
      have hm2 := framed_mono tag L (k + 1)
      rw [framed_len tag L k hlt, HM.out] at hm2
      have HM2 := Lib.hid (framed_len tag L k hlt)
      obtain ⟨X, hX⟩ : ∃ X, L[k] = X := ⟨_, rfl⟩
      rw [hX] at hcell hm2 HM2
      clear hX
      have k0 : (0 : Int) ≤ (k : Int) := by omega
      have k1 : (k : Int) < (L.length : Int) := by omega
      go_wp2
      go_round
      case rel => exact ⟨k + 1, m + (8 + X.length), by omega, by go_num, by go_num, Lib.hid (by rw [HM2.out, HM.out])⟩
      case measure => simp [intOf]; omega
    · have ek : k = L.length := by omega
      subst ek
      have HE := Lib.hid (show (framed tag L).length = m by rw [← HM.out, List.take_length])
      clear HM
      go_wp2
      go_ret
      exact ⟨by rw [HE.out]; rfl, rfl⟩

theorem bytes_snoc (l : List UInt8) (X : List UInt8) : Lib.byteCells l ++ Lib.strCells ⟨X.toArray⟩ = Lib.byteCells (l ++ X) := by rw [Lib.byteCells_append]; rfl

set_option maxRecDepth 100000 in
set_option maxHeartbeats 1000000 in
theorem lay_any (B b : Nat) (l X : List UInt8) (w : World) (h : Lib.IsBuilder 50 5 B b (Lib.byteCells l) w) (hB : B ≤ w.heap.size) (hlen : l.length + X.length < 200000000000) :
    Calls Tryd.prog 29 #[.string ⟨X.toArray⟩, .pointer (some ⟨b, 0, none⟩)] w fun e w' => e = .returned (.tuple #[]) ∧ Lib.IsBuilder 50 5 B b (Lib.byteCells (l ++ partL X)) w' ∧ Below B w w' := by
  have hl1 := Lib.byteCells_length l
  go_enter Tryd.func29, Tryd.ntmps29
  go_wp2_with fail
  refine (num_any X.length w).mono ?_
  rintro e w1 ⟨rfl, hB1⟩
  have h1 := isBuilder_below h hB1
  have hn8 : (numL X.length).length = 8 := numL_length _
  have hb1 : Below B w w1 := hB1.mono hB
  have s1 := hb1.size
  go_wp2_with fail
  refine (writeString B b _ ⟨(numL X.length).toArray⟩ w1 h1 (by show (Lib.byteCells l).length + (numL X.length).length ≤ _; omega) (by omega)).mono ?_
  rintro e w2 ⟨rfl, h2, hb2⟩
  rw [bytes_snoc] at h2
  have hl2 := Lib.byteCells_length (l ++ numL X.length)
  rw [List.length_append] at hl2
  have s2 := hb2.size
  go_wp2_with fail
  refine (writeString B b _ ⟨X.toArray⟩ w2 (.inr h2) (by show (Lib.byteCells (l ++ numL X.length)).length + X.length ≤ _; omega) (by omega)).mono ?_
  rintro e w3 ⟨rfl, h3, hb3⟩
  rw [bytes_snoc, List.append_assoc] at h3
  go_wp2
  refine bodyPost_end (results_none rfl _ _ _) rfl ?_
  exact ⟨rfl, .inr h3, (hb1.trans hb2).trans hb3⟩

set_option maxRecDepth 100000 in
set_option maxHeartbeats 1000000 in
theorem frame_any (tag : List UInt8) (ao : Option Addr) (cap : Nat) (L : List (List UInt8)) (w : World) (hs : Strs ao L w) (h1 : 1 ≤ tag.length) (h16 : tag.length ≤ 16) (hlen : (framed tag L).length < 100000000000) :
    Calls Tryd.prog 21 #[.string ⟨tag.toArray⟩, .slice ao L.length cap] w fun e w' => e = .returned (.string ⟨(framed tag L).toArray⟩) ∧ Below w.heap.size w w' := by
  have hc := framed_count tag L L.length (Nat.le_refl _)
  rw [List.take_length] at hc
  have HS := Lib.hid hs
  clear hs
  go_enter Tryd.func21, Tryd.ntmps21
  go_wp2_with fail
  obtain ⟨w0, hw0⟩ : ∃ w0, w.alloc (.cells #[.pointer none, .slice none 0 0] 50) = w0 := ⟨_, rfl⟩
  have hrow0 : w0.heap[w.heap.size]? = some (.cells #[.pointer none, .slice none 0 0] 50 (0, 0)) := by rw [← hw0]; exact heap_alloc_new w _
  have hb0 : Below w.heap.size w w0 := by rw [← hw0]; exact (Below.refl _ _).alloc (Nat.le_refl _) _
  rw [hw0]
  clear hw0
  have z0 := hb0.size
  refine (frameSize_any tag ao cap L w0 (HS.out.below (Nat.le_refl _) hb0) hlen).mono ?_
  rintro e wx ⟨rfl, rfl⟩
  go_wp2_with fail
  refine (grow_fresh w.heap.size w.heap.size (framed tag L).length w0 (Nat.le_refl _) hrow0 z0 (by omega)).mono ?_
  rintro e w1 ⟨rfl, hI1, hb1⟩
  clear hrow0
  have z1 := hb1.size
  go_wp2_with fail
  refine (writeByte w.heap.size w.heap.size [] (tag.length : Int) w1 (.inr hI1) (by simp) (by omega)).mono ?_
  rintro e w2 ⟨rfl, hI2, hb2⟩
  have e2 : ([] : List Value) ++ [.int .u8 (tag.length : Int)] = Lib.byteCells [UInt8.ofNat tag.length] := by
    have : (tag.length : Int) = ((UInt8.ofNat tag.length).toNat : Int) := by rw [UInt8.toNat_ofNat']; omega
    rw [this]; rfl
  rw [e2] at hI2
  clear e2
  have z2 := hb2.size
  go_wp2_with fail
  refine (writeString w.heap.size w.heap.size (Lib.byteCells [UInt8.ofNat tag.length]) ⟨tag.toArray⟩ w2 (.inr hI2) (by show 1 + tag.length ≤ _; omega) (by omega)).mono ?_
  rintro e w3 ⟨rfl, hI3, hb3⟩
  rw [bytes_snoc, List.singleton_append, ← framed_nil] at hI3
  have hb03 : Below w.heap.size w w3 := ((hb0.trans hb1).trans hb2).trans hb3
  clear hI1 hI2 hb0 hb1 hb2 hb3 z0 z1 z2
  go_wp2
  go_loopw [8, 30] (fun _ i wr => ∃ k : Nat, ∃ T : List UInt8, k ≤ L.length ∧ i = .int .i64 (k : Int) ∧ Hid (T = framed tag (L.take k)) ∧ Lib.IsBuilder 50 5 w.heap.size w.heap.size (Lib.byteCells T) wr ∧ Below w.heap.size w wr)
    (fun _ i _ => L.length - (intOf i).toNat)
  case atStart => exact ⟨0, _, by omega, rfl, Lib.hid (by rw [List.take_zero]), .inr hI3, hb03⟩
  case round =>
    clear hI3 hb03
    obtain ⟨k, T, hk, rfl, HT, hI, hb⟩ := hrel
    have hm1 := framed_mono tag L k
    rw [← HT.out] at hm1
    have z := hb.size
    by_cases hlt : k < L.length
    · obtain ⟨b, off, rfl, hcell⟩ := (HS.out.below (Nat.le_refl _) hb).cell k hlt
      have hm2 := framed_mono tag L (k + 1)
      rw [framed_len tag L k hlt, ← HT.out] at hm2
      have HT2 := Lib.hid (framed_snoc tag L k hlt)
      obtain ⟨X, hX⟩ : ∃ X, L[k] = X := ⟨_, rfl⟩
      rw [hX] at hcell hm2 HT2
      clear hX
      have k0 : (0 : Int) ≤ (k : Int) := by omega
      have k1 : (k : Int) < (L.length : Int) := by omega
      go_wp2_with fail
      refine (lay_any w.heap.size w.heap.size T X wr hI z (by omega)).mono ?_
      rintro e w4 ⟨rfl, hI4, hb4⟩
      go_wp2
      go_roundw
      case rel => exact ⟨k + 1, T ++ partL X, by omega, by go_num, Lib.hid (by rw [HT2.out, HT.out]), hI4, hb.trans hb4⟩
      case measure => simp [intOf]; omega
    · have ek : k = L.length := by omega
      subst ek
      have HE := Lib.hid (show T = framed tag L by rw [HT.out, List.take_length])
      clear HT
      go_wp2_with fail
      refine (builderString w.heap.size w.heap.size T wr hI z).mono ?_
      rintro e w4 ⟨rfl, hb4⟩
      go_wp2
      go_ret
      exact ⟨by rw [HE.out]; rfl, hb.trans hb4⟩
end Go.Proofs.YtdobmhbfadijoaaDoor
