/- The law's turned: bytes, of which one is turned, and some stay. -/
import Derived.Test.YtgdhljbcclbfaaaGreatDoorJ27
import Derived.Test.YtgdhljbcclbfaaaGreatDoorJ11
import Derived.Laws.Bits64
import Derived.Deep.Cut
import Derived.Deep.QuietTactic
import Derived.Test.YtgdhljbcclbfaaaGreatDoorJ31
import Derived.Test.YtgdhljbcclbfaaaGreatDoorJ22
namespace Go.Proofs.YtgdhljbcclbfaaaGreatDoor
open Go.RowKit

theorem xor_u8 (a b : Nat) (ha : a < 256) (hb : b < 256) : ∃ v : UInt8, bits .xor .u8 (a : Int) (b : Int) = (v.toNat : Int) := by
  have hx : a ^^^ b < 2 ^ 8 := Nat.xor_lt_two_pow (by omega) (by omega)
  have h1 : (BitVec.ofInt 8 (a : Int)).toNat = a := by
    rw [BitVec.ofInt_natCast, BitVec.toNat_ofNat]; exact Nat.mod_eq_of_lt (by omega)
  have h2 : (BitVec.ofInt 8 (b : Int)).toNat = b := by
    rw [BitVec.ofInt_natCast, BitVec.toNat_ofNat]; exact Nat.mod_eq_of_lt (by omega)
  refine ⟨UInt8.ofNat (a ^^^ b), ?_⟩
  show IntKind.u8.wrap ((BitVec.ofInt 8 (a : Int) ^^^ BitVec.ofInt 8 (b : Int)).toNat : Int) = _
  rw [BitVec.toNat_xor, h1, h2, UInt8.toNat_ofNat']
  simp only [IntKind.wrap, IntKind.bits, IntKind.signed]
  simp
/-- bytes in a row of one's own -/
structure Rw8 (b : Nat) (L : (List UInt8)) (w : World) : Prop where
  c : ∀ j (h : j < L.length), w.cell? ⟨b, j, none⟩ = some (.int .u8 (L[j].toNat : Int))
  f : ∀ j, j < L.length → w.frozen? ⟨b, j, none⟩ = false
theorem row8_own (S : (List UInt8)) (w : World) : ∃ cap w', (convert 9 100 (.string ⟨S.toArray⟩)).run Tryz.prog w = .ok (.slice (some ⟨w.heap.size, 0, none⟩) S.length cap) w' ∧ S.length ≤ cap ∧ Rw8 w.heap.size S w' ∧ Below w.heap.size w w' ∧ w.heap.size < w'.heap.size := by
  refine ⟨_, _, Lib.run_convert_string_bytes (P := Tryz.prog) w 9 100 5 ⟨S.toArray⟩ Tryz.underlying9 Tryz.underlying100 Tryz.underlying5, ?_, ⟨fun j hj => ?_, fun j hj => ?_⟩, ?_, ?_⟩
  · have : (⟨S.toArray⟩ : ByteArray).size = S.length := rfl
    rw [← this]
    exact grownCap_ge _ _ _ _
  · rw [Lib.bytesWorld_cell w 5 ⟨S.toArray⟩ j hj]
    simp [List.getD, List.getElem?_eq_getElem hj]
  · have h1 : (Lib.bytesWorld w 5 ⟨S.toArray⟩).heap[(⟨w.heap.size, j, none⟩ : Addr).block]? = _ := Lib.bytesWorld_at_new w 5 ⟨S.toArray⟩
    unfold World.frozen?
    rw [h1]
    have h2 : S.length ≤ (Lib.bytesCells w 5 ⟨S.toArray⟩).size := by simp [Lib.bytesCells]
    simp only [Bool.and_eq_false_iff, decide_eq_false_iff_not]
    left
    omega
  · exact ⟨rfl, rfl, rfl, by rw [Lib.bytesWorld_size]; omega, fun k hk => Lib.bytesWorld_at_old w 5 _ k hk⟩
  · rw [Lib.bytesWorld_size]; omega
theorem set_cells {b i : Nat} {L : (List UInt8)} {v : UInt8} {w : World} (h : Rw8 b L w) : Rw8 b (L.set i v) (w.setCell ⟨b, i, none⟩ (.int .u8 (v.toNat : Int))) := by
  refine ⟨fun j hj => ?_, fun j hj => ?_⟩
  · rw [List.length_set] at hj
    by_cases hji : i = j
    · subst hji
      rw [World.cell?_setCell_same _ _ _ (h.c i hj), List.getElem_set_self]
    · rw [World.cell?_setCell_other _ ⟨b, i, none⟩ ⟨b, j, none⟩ _ (fun e => hji (by cases e; rfl)), h.c j hj, List.getElem_set_ne hji]
  · rw [List.length_set] at hj
    rw [World.frozen?_setCell]
    exact h.f j hj
theorem Rw8.to {b : Nat} {L : (List UInt8)} {w w' : World} (h : Rw8 b L w) (hw : w'.heap[b]? = w.heap[b]?) : Rw8 b L w' := by
  refine ⟨fun j hj => (World.cell?_of_block (a := ⟨b, j, none⟩) hw).trans (h.c j hj), fun j hj => ?_⟩
  have h1 := h.f j hj
  unfold World.frozen? at *
  rw [show w'.heap[(⟨b, j, none⟩ : Addr).block]? = w.heap[b]? from hw]
  exact h1
/-- what turned's walk keeps -/
structure Tw (w0 : World) (b : Nat) (n : Nat) (L : (List UInt8)) (cs : Array Value) (wz : World) : Prop where
  o : Below w0.heap.size w0 wz
  x : wz.heap[w0.heap.size]? = some (.cells cs 27 (0, 0))
  r : Rw8 b L wz
  l : L.length = n
  ne : w0.heap.size < b
  lt : b < wz.heap.size
theorem tw_drew {w0 wz : World} {b n : Nat} {L : (List UInt8)} {cs : Array Value} (h : Tw w0 b n L cs wz) : Tw w0 b n L cs wz.drew := ⟨h.o.drew, h.x, h.r.to rfl, h.l, h.ne, h.lt⟩
set_option maxRecDepth 100000 in
set_option maxHeartbeats 1000000 in
theorem turned_any (S : (List UInt8)) (at_ by_ : Nat) (stay : Int) (w : World) (hS : S.length ≤ 1000000000) (hat : at_ < 65536) (hby : by_ < 256) :
    Calls Tryz.prog 13 #[.string ⟨S.toArray⟩, .agg #[.int .u16 (at_ : Int), .int .u8 (by_ : Int), .int .i64 stay]] w fun e w' => ∃ T : (List UInt8), e = .returned (.string ⟨T.toArray⟩) ∧ T.length ≤ S.length ∧ Below w.heap.size w w' := by
  obtain ⟨cap, wb, hconv, hcap, hrow, hbel, hbz⟩ := row8_own S (w.alloc (.cells #[.int .u16 (at_ : Int), .int .u8 (by_ : Int), .int .i64 stay] 27))
  have hz : (w.alloc (.cells #[.int .u16 (at_ : Int), .int .u8 (by_ : Int), .int .i64 stay] 27)).heap.size = w.heap.size + 1 := by simp
  rw [hz] at hrow hconv hbz
  have K := Lib.hid (show Tw w (w.heap.size + 1) S.length S #[.int .u16 (at_ : Int), .int .u8 (by_ : Int), .int .i64 stay] wb from
    ⟨(by0 w _).trans (hbel.mono (by simp)), (hbel.block _ (by simp)).trans (heap_alloc_new w _), hrow, rfl, by omega, hbz⟩)
  have HX := Lib.hid (heap_alloc_new w (.cells #[.int .u16 (at_ : Int), .int .u8 (by_ : Int), .int .i64 stay] 27))
  have HCV := Lib.hid hconv
  have HCP := Lib.hid (And.intro hcap (And.intro hS (And.intro hat hby)))
  clear hconv hcap hrow hbel hbz hz hS hat hby
  go_enter Tryz.func13, Tryz.ntmps13
  go_upto_region 1 with fail
  change Code.wp _ _ _ _ (w.alloc (.cells #[.int .u16 (at_ : Int), .int .u8 (by_ : Int), .int .i64 stay] 27))
  generalize w.alloc (.cells #[.int .u16 (at_ : Int), .int .u8 (by_ : Int), .int .i64 stay] 27) = w1 at *
  have hconv := HCV.out
  go_upto_region 2 with fail
  clear hconv HCV HX
  go_upto_if 10 with fail
  go_cut [] from 6 (fun wx => ∃ L : (List UInt8), Hid (Tw w (w.heap.size + 1) S.length L #[.int .u16 (at_ : Int), .int .u8 (by_ : Int), .int .i64 stay] wx))
  case first =>
    by_cases h0 : 0 < S.length
    · have hi := Nat.mod_lt at_ h0
      obtain ⟨i, hie⟩ : ∃ i, at_ % S.length = i := ⟨_, rfl⟩
      rw [hie] at hi
      have hm1 : (at_ : Int).tmod (S.length : Int) = (i : Int) := by rw [← hie]; rfl
      have hm2 : (at_ : Int) % (S.length : Int) = (i : Int) := by rw [← hie]; rfl
      obtain ⟨v, hv⟩ := xor_u8 S[i].toNat by_ (UInt8.toNat_lt _) HCP.out.2.2.2
      have hc := K.out.r.c i hi
      have hf := K.out.r.f i hi
      have a0 := (lit_cell K.out.x 0).trans rfl
      have a1 := (lit_cell K.out.x 1).trans rfl
      have k0 : (0 : Int) < (S.length : Int) := by omega
      have k1 : (0 : Int) ≤ (i : Int) := by omega
      have k2 : (i : Int) < (S.length : Int) := by omega
      have k3 : (at_ : Int) ≤ 65535 := by have := HCP.out.2.2.1; omega
      have k4 : (0 : Int) ≤ (at_ : Int) := by omega
      have k5 : ((S.length : Int) == 0) = false := by rw [beq_eq_false_iff_ne]; omega
      have k6 : ¬ (S.length : Int) = 0 := by omega
      have K2 := Lib.hid (show Tw w (w.heap.size + 1) S.length (S.set i v) #[.int .u16 (at_ : Int), .int .u8 (by_ : Int), .int .i64 stay] (wb.setCell ⟨w.heap.size + 1, i, none⟩ (.int .u8 (v.toNat : Int))) from by
        have ho := Only.set (w.heap.size + 1) i (.int .u8 (v.toNat : Int)) wb
        obtain ⟨h1, h2, h3, h4, h5, h6⟩ := K.out
        exact ⟨h1.trans (ho.below (by omega) h1.size), (ho.block _ (lit_lt h2) (by omega)).trans h2, set_cells h3, by simp, h5, Nat.lt_of_lt_of_le h6 ho.size⟩)
      generalize (S[i].toNat : Int) = si at *
      clear h0 hi hie
      go_upto_region 3 with fail
      go_region
      go_wp2
      go_meet
      exact ⟨_, Lib.hid (tw_drew K2.out)⟩
    · have h1 : S.length = 0 := by omega
      have k0 : ¬ (0 : Int) < (S.length : Int) := by omega
      have K2 := Lib.hid K.out
      clear h0 h1
      go_wp2
      go_meet
      exact ⟨_, K2⟩
  case rest =>
  obtain ⟨L, K⟩ := hcut
  have a2 := (lit_cell K.out.x 2).trans rfl
  by_cases hs : 0 ≤ stay ∧ stay < (S.length : Int)
  · obtain ⟨m, rfl⟩ : ∃ m : Nat, stay = (m : Int) := ⟨stay.toNat, by omega⟩
    have k1 : (0 : Int) ≤ (m : Int) := by omega
    have k2 : (m : Int) < (S.length : Int) := hs.2
    have k3 : (m : Int) ≤ (cap : Int) := by have := HCP.out.1; omega
    have hl := K.out.l
    have hml : (L.take m).length = m := by rw [List.length_take]; omega
    have hconv := run_convert_bytes_back (P := Tryz.prog) wc 100 9 5 ⟨w.heap.size + 1, 0, none⟩ cap (L.take m) Tryz.underlying100 Tryz.underlying5 Tryz.underlying9 (fun j hj => by
      rw [List.length_take] at hj
      have := K.out.r.c j (by omega)
      rw [Addr.add_mid, Nat.zero_add, this, List.getElem_take])
    rw [hml] at hconv
    have HT := Lib.hid (show (L.take m).length ≤ S.length by rw [hml]; omega)
    clear hl hml hs
    generalize L.take m = T at *
    go_wp2
    go_ret
    exact ⟨T, rfl, HT.out, K.out.o⟩
  · have hl := K.out.l
    have hconv := run_convert_bytes_back (P := Tryz.prog) wc 100 9 5 ⟨w.heap.size + 1, 0, none⟩ cap L Tryz.underlying100 Tryz.underlying5 Tryz.underlying9 (fun j hj => by
      have := K.out.r.c j hj
      rw [Addr.add_mid, Nat.zero_add, this])
    rw [hl] at hconv
    have HT := Lib.hid (show L.length ≤ S.length by omega)
    clear hl
    by_cases h1 : 0 ≤ stay
    · have k2 : ¬ stay < (S.length : Int) := fun h => hs ⟨h1, h⟩
      clear hs
      go_wp2
      go_ret
      exact ⟨L, rfl, HT.out, K.out.o⟩
    · clear hs
      go_wp2
      go_ret
      exact ⟨L, rfl, HT.out, K.out.o⟩
end Go.Proofs.YtgdhljbcclbfaaaGreatDoor
/- The reference's lists of digests; whether they may be; a map being laid, in a walk. -/
namespace Go.Proofs.YtgdhljbcclbfaaaGreatDoor
open Go.RowKit

theorem rbinP_len (s : (List UInt8)) : (binP s).length ≤ 3 + s.length := by
  rw [binP, List.length_append]; have := headP_len 1 s.length; omega
theorem digs_len (M : Nat) : ∀ (L : List (List UInt8)), (∀ x ∈ L, x.length ≤ M) → (L.flatMap binP).length ≤ L.length * (M + 3)
  | [], _ => by simp
  | x :: L, h => by
    have h1 := digs_len M L (fun y hy => h y (by simp [hy]))
    have h2 := rbinP_len x
    have h3 := h x (by simp)
    rw [List.flatMap_cons, List.length_append, List.length_cons, Nat.add_mul]
    omega
theorem rdigsP_len (L : List (List UInt8)) (hl : L.length ≤ 10240) (h : ∀ x ∈ L, x.length ≤ 5000) : (digsP L).length ≤ 100000000 := by
  have h1 := digs_len 5000 L h
  have h2 := headP_len 3 L.length
  have h3 : L.length * 5003 ≤ 10240 * 5003 := Nat.mul_le_mul_right _ hl
  unfold digsP
  split
  · simp
  · rw [List.length_append]; omega
theorem take_binP (L : List (List UInt8)) (k : Nat) (hk : k < L.length) : (L.take (k + 1)).flatMap binP = (L.take k).flatMap binP ++ binP L[k] := by
  rw [List.take_succ_eq_append_getElem hk, List.flatMap_append]; simp
set_option maxRecDepth 100000 in
theorem digests_any (ao : Option Addr) (cp : Nat) (L : List (List UInt8)) (w : World) (hS : Strs ao L w) (hl : L.length ≤ 10240) (ht : ∀ x ∈ L, x.length ≤ 5000) :
    Calls Tryz.prog 61 #[.slice ao L.length cp] w fun e w' => e = .returned (.string ⟨(digsP L).toArray⟩) ∧ Below w.heap.size w w' := by
  by_cases h0 : L = []
  · subst h0
    have HE := Lib.hid (show digsP [] = [] from rfl)
    rw [HE.out]
    clear hl ht
    go_enter Tryz.func61, Tryz.ntmps61
    go_wp2
    go_ret
    exact ⟨rfl, Below.refl _ _⟩
  · have HE := Lib.hid (show digsP L = headP 3 L.length ++ L.flatMap binP from if_neg h0)
    rw [HE.out]
    have hne : ((L.length : Int) == 0) = false := by
      rw [beq_eq_false_iff_ne]
      intro e
      exact h0 (List.eq_nil_of_length_eq_zero (by omega))
    have HH := Lib.hid (whead_any L.length w (by omega))
    have HS := Lib.hid hS
    have HB := Lib.hid (fun (w : World) (k : Nat) (hk : k < L.length) => wbin_any L[k] w (by have := ht _ (List.getElem_mem hk); omega))
    have HC := Lib.hid (fun (k : Nat) (hk : k < L.length) => show ∀ w, _ from run_cat (headP 3 L.length ++ (L.take k).flatMap binP) (binP L[k]) (by
      have h1 := digs_len 5000 (L.take k) (fun x hx => ht x (List.mem_of_mem_take hx))
      have h2 := headP_len 3 L.length
      have h3 := rbinP_len L[k]
      have h4 := ht _ (List.getElem_mem hk)
      rw [List.length_take] at h1
      have h5 : min k L.length * 5003 ≤ 10240 * 5003 := Nat.mul_le_mul_right _ (by omega)
      rw [List.length_append]
      omega))
    have HL := Lib.hid hl
    clear h0 hS ht hl
    obtain ⟨H, hH⟩ : ∃ H, headP 3 L.length = H := ⟨_, rfl⟩
    rw [hH] at HH HC ⊢
    clear hH
    go_enter Tryz.func61, Tryz.ntmps61
    go_wp2_with (go_at_call 63; refine HH.out.mono ?_; rintro e w1 ⟨rfl, hb1⟩)
    have HB1 := Lib.hid hb1
    clear hb1
    go_loopw [3, 4] (fun s i wr => ∃ k : Nat, k ≤ L.length ∧ i = .int .i64 (k : Int) ∧ s = .string ⟨(H ++ (L.take k).flatMap binP).toArray⟩ ∧ Below w.heap.size w wr)
      (fun _ i _ => L.length - (intOf i).toNat)
    case atStart => exact ⟨0, Nat.zero_le _, rfl, by simp, HB1.out⟩
    case round =>
      obtain ⟨k, hk, rfl, rfl, hbe⟩ := hrel
      by_cases hlt : k < L.length
      · obtain ⟨bb, off, rfl, hcell⟩ := (HS.out.below (Nat.le_refl _) hbe).cell k hlt
        have k1 : (k : Int) < (L.length : Int) := by omega
        have k0 : (0 : Int) ≤ (k : Int) := by omega
        have hcat := HC.out k hlt
        rw [List.append_assoc, ← take_binP L k hlt] at hcat
        have HBK := Lib.hid (fun w => HB.out w k hlt)
        have HLT := Lib.hid hlt
        generalize hx : L[k] = x at *
        clear hx hlt hk
        generalize binP x = X at *
        obtain ⟨Y2, hY2⟩ : ∃ Y2, H ++ (L.take (k + 1)).flatMap binP = Y2 := ⟨_, rfl⟩
        rw [hY2] at hcat
        have HY2 := Lib.hid hY2
        clear hY2
        have k6 : (k : Int) ≤ 10240 := by have := HL.out; have := HLT.out; omega
        generalize H ++ (L.take k).flatMap binP = Y1 at *
        go_wp2_with (go_at_call 62; refine (HBK.out _).mono ?_; rintro e w3 ⟨rfl, hb3⟩; have hbe3 := hbe.trans (hb3.mono hbe.size))
        go_roundw
        case rel => exact ⟨k + 1, HLT.out, by go_num, by rw [HY2.out], hbe3⟩
        case measure => have := HLT.out; simp [intOf] <;> omega
      · have k1 : ¬ (k : Int) < (L.length : Int) := by omega
        obtain rfl : k = L.length := by omega
        rw [List.take_length]
        clear hlt hk
        go_wp2
        go_ret
        exact ⟨rfl, hbe⟩

theorem all_take (L : List (List UInt8)) (k : Nat) (hk : k < L.length) (h : (L.take k).all digB = true) : (L.take (k + 1)).all digB = digB L[k] := by
  rw [List.take_succ_eq_append_getElem hk, List.all_append, h]; simp
theorem all_no (L : List (List UInt8)) (k : Nat) (hk : k < L.length) (h : digB L[k] = false) : L.all digB = false := by
  rw [List.all_eq_false]; exact ⟨_, List.getElem_mem hk, by rw [h]; decide⟩
set_option maxRecDepth 100000 in
theorem may_any (ao : Option Addr) (cp : Nat) (L : List (List UInt8)) (n : Nat) (w : World) (hS : Strs ao L w) (hl : L.length ≤ 1000000) :
    Calls Tryz.prog 59 #[.slice ao L.length cp, .int .i64 (n : Int)] w fun e w' => e = .returned (.bool (mayB L n)) ∧ Below w.heap.size w w' := by
  have HS := Lib.hid hS
  have HL := Lib.hid hl
  clear hS hl
  go_enter Tryz.func59, Tryz.ntmps59
  go_wp2_with fail
  go_loopw [5] (fun i wr => ∃ k : Nat, k ≤ L.length ∧ i = .int .i64 (k : Int) ∧ Hid ((L.take k).all digB = true) ∧ Below w.heap.size w wr)
    (fun i _ => L.length - (intOf i).toNat)
  case atStart => exact ⟨0, Nat.zero_le _, rfl, Lib.hid rfl, Below.refl _ _⟩
  case round =>
    obtain ⟨k, hk, rfl, HA, hbe⟩ := hrel
    by_cases hlt : k < L.length
    · obtain ⟨bb, off, rfl, hcell⟩ := (HS.out.below (Nat.le_refl _) hbe).cell k hlt
      have k1 : (k : Int) < (L.length : Int) := by omega
      have k0 : (0 : Int) ≤ (k : Int) := by omega
      have k6 : (k : Int) ≤ 1000000 := by have := HL.out; omega
      have HD := Lib.hid (fun w => wdigest_any L[k] w)
      cases hd : digB L[k] with
      | true =>
        rw [hd] at HD
        have HA2 := Lib.hid ((all_take L k hlt HA.out).trans hd)
        have HLT := Lib.hid hlt
        clear hd
        generalize hx : L[k] = x at *
        clear hx hlt hk HA
        go_wp2_with (go_at_call 43; refine (HD.out _).mono ?_; rintro e w3 ⟨rfl, rfl⟩)
        go_roundw
        case rel => exact ⟨k + 1, HLT.out, by go_num, HA2, hbe⟩
        case measure => have := HLT.out; simp [intOf] <;> omega
      | false =>
        rw [hd] at HD
        have HE := Lib.hid (show mayB L n = false by rw [mayB, all_no L k hlt hd, Bool.false_and])
        clear hd
        generalize hx : L[k] = x at *
        clear hx hlt hk HA
        go_wp2_with (go_at_call 43; refine (HD.out _).mono ?_; rintro e w3 ⟨rfl, rfl⟩)
        go_ret
        exact ⟨by rw [HE.out]; rfl, hbe⟩
    · have k1 : ¬ (k : Int) < (L.length : Int) := by omega
      obtain rfl : k = L.length := by omega
      rw [List.take_length] at HA
      clear hlt hk
      by_cases hn : L.length ≤ n
      · have HE := Lib.hid (show mayB L n = true by rw [mayB, HA.out, Bool.true_and]; exact decide_eq_true hn)
        have j1 : (L.length : Int) ≤ (n : Int) := by omega
        clear hn
        go_wp2
        all_goals go_ret
        all_goals first | exact ⟨by rw [HE.out]; rfl, hbe⟩ | exact ⟨by rw [HE.out]; simp [j1], hbe⟩
      · have HE := Lib.hid (show mayB L n = false by rw [mayB, HA.out, Bool.true_and]; exact decide_eq_false hn)
        have j1 : ¬ (L.length : Int) ≤ (n : Int) := by omega
        clear hn
        go_wp2
        all_goals go_ret
        all_goals first | exact ⟨by rw [HE.out]; rfl, hbe⟩ | exact ⟨by rw [HE.out]; simp [j1], hbe⟩

/-- a signature as a value: its lists lie in memory -/
structure SigV (g : SigR) (aw ap : Option Addr) (w : World) : Prop where
  ws : Strs aw g.wots w
  ps : Strs ap g.path w
theorem SigV.below {g : SigR} {aw ap : Option Addr} {w w' : World} {B : Nat} (h : SigV g aw ap w) (hB : w.heap.size ≤ B) (hb : Below B w w') : SigV g aw ap w' := ⟨h.ws.below hB hb, h.ps.below hB hb⟩
/-- what its numbers and texts may be -/
structure RSig (g : SigR) : Prop where
  i : g.index < 18446744073709551616
  wl : g.wots.length ≤ 10240
  pl : g.path.length ≤ 10240
  wt : ∀ x ∈ g.wots, x.length ≤ 5000
  pt : ∀ x ∈ g.path, x.length ≤ 5000
set_option maxRecDepth 100000 in
theorem maySig_any (g : SigR) (aw ap : Option Addr) (cw cp : Nat) (w : World) (hV : SigV g aw ap w) (hI : RSig g) :
    Calls Tryz.prog 53 #[.agg #[.int .u64 (g.index : Int), .slice aw g.wots.length cw, .slice ap g.path.length cp]] w fun e w' => e = .returned (.bool (maySigB g)) ∧ Below w.heap.size w w' := by
  have hb0 := by0 w (.cells #[.int .u64 (g.index : Int), .slice aw g.wots.length cw, .slice ap g.path.length cp] 46)
  have HB0 := Lib.hid hb0
  have HP := Lib.hid (fun w' (hb : Below w.heap.size w w') => may_any ap cp g.path 16 w' (hV.ps.below (Nat.le_refl _) hb) (by have := hI.pl; omega))
  have HW := Lib.hid (fun w' (hb : Below w.heap.size w w') => may_any aw cw g.wots 67 w' (hV.ws.below (Nat.le_refl _) hb) (by have := hI.wl; omega))
  have HN := Lib.hid (heap_alloc_new w (.cells #[.int .u64 (g.index : Int), .slice aw g.wots.length cw, .slice ap g.path.length cp] 46))
  have HE := Lib.hid (show maySigB g = (mayB g.path 16 && mayB g.wots 67) from rfl)
  clear hV hI hb0
  rw [HE.out]
  generalize mayB g.path 16 = p at *
  generalize mayB g.wots 67 = q at *
  cases p with
  | false =>
    go_enter Tryz.func53, Tryz.ntmps53
    go_wp2_with (go_at_call 59; refine (HP.out _ HB0.out).mono ?_; rintro e w1 ⟨rfl, hb⟩)
    go_ret
    exact ⟨rfl, HB0.out.trans (hb.mono HB0.out.size)⟩
  | true =>
    go_enter Tryz.func53, Tryz.ntmps53
    go_wp2_with fail
    refine (HP.out _ HB0.out).mono ?_
    rintro e w1 ⟨rfl, hb⟩
    have HB1 := Lib.hid (HB0.out.trans (hb.mono HB0.out.size))
    have hn1 := (hb.block _ (lit_lt HN.out)).trans HN.out
    have c1 := (lit_cell hn1 1).trans rfl
    clear hb
    go_wp2_with fail
    refine (HW.out _ HB1.out).mono ?_
    rintro e w2 ⟨rfl, hb⟩
    have HB2 := Lib.hid (HB1.out.trans (hb.mono HB1.out.size))
    clear hb
    go_wp2
    go_ret
    exact ⟨rfl, HB2.out⟩
end Go.Proofs.YtgdhljbcclbfaaaGreatDoor
