/- The law's turned: bytes, of which one is turned, and some stay. -/
import Derived.Test.YtlhmmplkdjibkaaGreatDoorJ17
import Derived.Test.YtlhmmplkdjibkaaGreatDoorJ8
import Derived.Laws.Bits64
import Derived.Deep.Cut
import Derived.Deep.QuietTactic
import Derived.Test.YtlhmmplkdjibkaaGreatDoorJ19
import Derived.Test.YtlhmmplkdjibkaaGreatDoorJ14
import Derived.Test.YtlhmmplkdjibkaaGreatDoorJ16
namespace Go.Proofs.YtlhmmplkdjibkaaGreatDoor
open Go.RowKit

theorem xor_u8 (a b : Nat) (ha : a < 256) (hb : b < 256) : ∃ v : UInt8, bits .xor .u8 (a : Int) (b : Int) = (v.toNat : Int) := by
  have hx : a ^^^ b < 2 ^ 8 := Nat.xor_lt_two_pow (by omega) (by omega)
  have h1 : (BitVec.ofInt 8 (a : Int)).toNat = a := by
    rw [BitVec.ofInt_natCast, BitVec.toNat_ofNat]; exact Nat.mod_eq_of_lt (by omega)
  have h2 : (BitVec.ofInt 8 (b : Int)).toNat = b := by
    rw [BitVec.ofInt_natCast, BitVec.toNat_ofNat]; exact Nat.mod_eq_of_lt (by omega)
  refine ⟨UInt8.ofNat (a ^^^ b), ?_⟩
  show IntKind.u8.wrap ((BitVec.ofInt 8 (a : Int) ^^^ BitVec.ofInt 8 (b : Int)).toNat : Int) = _
  rw [BitVec.toNat_xor, h1, h2, UInt8.toNat_ofNat']
  simp only [IntKind.wrap, IntKind.bits, IntKind.signed]
  simp
/-- bytes in a row of one's own -/
structure Rw8 (b : Nat) (L : (List UInt8)) (w : World) : Prop where
  c : ∀ j (h : j < L.length), w.cell? ⟨b, j, none⟩ = some (.int .u8 (L[j].toNat : Int))
  f : ∀ j, j < L.length → w.frozen? ⟨b, j, none⟩ = false
theorem row8_own (S : (List UInt8)) (w : World) : ∃ cap w', (convert 9 77 (.string ⟨S.toArray⟩)).run Tryz.prog w = .ok (.slice (some ⟨w.heap.size, 0, none⟩) S.length cap) w' ∧ S.length ≤ cap ∧ Rw8 w.heap.size S w' ∧ Below w.heap.size w w' ∧ w.heap.size < w'.heap.size := by
  refine ⟨_, _, Lib.run_convert_string_bytes (P := Tryz.prog) w 9 77 5 ⟨S.toArray⟩ Tryz.underlying9 Tryz.underlying77 Tryz.underlying5, ?_, ⟨fun j hj => ?_, fun j hj => ?_⟩, ?_, ?_⟩
  · have : (⟨S.toArray⟩ : ByteArray).size = S.length := rfl
    rw [← this]
    exact grownCap_ge _ _ _ _
  · rw [Lib.bytesWorld_cell w 5 ⟨S.toArray⟩ j hj]
    simp [List.getD, List.getElem?_eq_getElem hj]
  · have h1 : (Lib.bytesWorld w 5 ⟨S.toArray⟩).heap[(⟨w.heap.size, j, none⟩ : Addr).block]? = _ := Lib.bytesWorld_at_new w 5 ⟨S.toArray⟩
    unfold World.frozen?
    rw [h1]
    have h2 : S.length ≤ (Lib.bytesCells w 5 ⟨S.toArray⟩).size := by simp [Lib.bytesCells]
    simp only [Bool.and_eq_false_iff, decide_eq_false_iff_not]
    left
    omega
  · exact ⟨rfl, rfl, rfl, by rw [Lib.bytesWorld_size]; omega, fun k hk => Lib.bytesWorld_at_old w 5 _ k hk⟩
  · rw [Lib.bytesWorld_size]; omega
theorem set_cells {b i : Nat} {L : (List UInt8)} {v : UInt8} {w : World} (h : Rw8 b L w) : Rw8 b (L.set i v) (w.setCell ⟨b, i, none⟩ (.int .u8 (v.toNat : Int))) := by
  refine ⟨fun j hj => ?_, fun j hj => ?_⟩
  · rw [List.length_set] at hj
    by_cases hji : i = j
    · subst hji
      rw [World.cell?_setCell_same _ _ _ (h.c i hj), List.getElem_set_self]
    · rw [World.cell?_setCell_other _ ⟨b, i, none⟩ ⟨b, j, none⟩ _ (fun e => hji (by cases e; rfl)), h.c j hj, List.getElem_set_ne hji]
  · rw [List.length_set] at hj
    rw [World.frozen?_setCell]
    exact h.f j hj
theorem Rw8.to {b : Nat} {L : (List UInt8)} {w w' : World} (h : Rw8 b L w) (hw : w'.heap[b]? = w.heap[b]?) : Rw8 b L w' := by
  refine ⟨fun j hj => (World.cell?_of_block (a := ⟨b, j, none⟩) hw).trans (h.c j hj), fun j hj => ?_⟩
  have h1 := h.f j hj
  unfold World.frozen? at *
  rw [show w'.heap[(⟨b, j, none⟩ : Addr).block]? = w.heap[b]? from hw]
  exact h1
/-- what turned's walk keeps -/
structure Tw (w0 : World) (b : Nat) (n : Nat) (L : (List UInt8)) (cs : Array Value) (wz : World) : Prop where
  o : Below w0.heap.size w0 wz
  x : wz.heap[w0.heap.size]? = some (.cells cs 30 (0, 0))
  r : Rw8 b L wz
  l : L.length = n
  ne : w0.heap.size < b
  lt : b < wz.heap.size
theorem tw_drew {w0 wz : World} {b n : Nat} {L : (List UInt8)} {cs : Array Value} (h : Tw w0 b n L cs wz) : Tw w0 b n L cs wz.drew := ⟨h.o.drew, h.x, h.r.to rfl, h.l, h.ne, h.lt⟩
set_option maxRecDepth 100000 in
set_option maxHeartbeats 1000000 in
theorem turned_any (S : (List UInt8)) (at_ by_ : Nat) (stay : Int) (w : World) (hS : S.length ≤ 1000000000) (hat : at_ < 65536) (hby : by_ < 256) :
    Calls Tryz.prog 7 #[.string ⟨S.toArray⟩, .agg #[.int .u16 (at_ : Int), .int .u8 (by_ : Int), .int .i64 stay]] w fun e w' => ∃ T : (List UInt8), e = .returned (.string ⟨T.toArray⟩) ∧ T.length ≤ S.length ∧ Below w.heap.size w w' := by
  obtain ⟨cap, wb, hconv, hcap, hrow, hbel, hbz⟩ := row8_own S (w.alloc (.cells #[.int .u16 (at_ : Int), .int .u8 (by_ : Int), .int .i64 stay] 30))
  have hz : (w.alloc (.cells #[.int .u16 (at_ : Int), .int .u8 (by_ : Int), .int .i64 stay] 30)).heap.size = w.heap.size + 1 := by simp
  rw [hz] at hrow hconv hbz
  have K := Lib.hid (show Tw w (w.heap.size + 1) S.length S #[.int .u16 (at_ : Int), .int .u8 (by_ : Int), .int .i64 stay] wb from
    ⟨(by0 w _).trans (hbel.mono (by simp)), (hbel.block _ (by simp)).trans (heap_alloc_new w _), hrow, rfl, by omega, hbz⟩)
  have HX := Lib.hid (heap_alloc_new w (.cells #[.int .u16 (at_ : Int), .int .u8 (by_ : Int), .int .i64 stay] 30))
  have HCV := Lib.hid hconv
  have HCP := Lib.hid (And.intro hcap (And.intro hS (And.intro hat hby)))
  clear hconv hcap hrow hbel hbz hz hS hat hby
  go_enter Tryz.func7, Tryz.ntmps7
  go_upto_region 1 with fail
  change Code.wp _ _ _ _ (w.alloc (.cells #[.int .u16 (at_ : Int), .int .u8 (by_ : Int), .int .i64 stay] 30))
  generalize w.alloc (.cells #[.int .u16 (at_ : Int), .int .u8 (by_ : Int), .int .i64 stay] 30) = w1 at *
  have hconv := HCV.out
  go_upto_region 2 with fail
  clear hconv HCV HX
  go_upto_if 10 with fail
  go_cut [] from 6 (fun wx => ∃ L : (List UInt8), Hid (Tw w (w.heap.size + 1) S.length L #[.int .u16 (at_ : Int), .int .u8 (by_ : Int), .int .i64 stay] wx))
  case first =>
    by_cases h0 : 0 < S.length
    · have hi := Nat.mod_lt at_ h0
      obtain ⟨i, hie⟩ : ∃ i, at_ % S.length = i := ⟨_, rfl⟩
      rw [hie] at hi
      have hm1 : (at_ : Int).tmod (S.length : Int) = (i : Int) := by rw [← hie]; rfl
      have hm2 : (at_ : Int) % (S.length : Int) = (i : Int) := by rw [← hie]; rfl
      obtain ⟨v, hv⟩ := xor_u8 S[i].toNat by_ (UInt8.toNat_lt _) HCP.out.2.2.2
      have hc := K.out.r.c i hi
      have hf := K.out.r.f i hi
      have a0 := (lit_cell K.out.x 0).trans rfl
      have a1 := (lit_cell K.out.x 1).trans rfl
      have k0 : (0 : Int) < (S.length : Int) := by omega
      have k1 : (0 : Int) ≤ (i : Int) := by omega
      have k2 : (i : Int) < (S.length : Int) := by omega
      have k3 : (at_ : Int) ≤ 65535 := by have := HCP.out.2.2.1; omega
      have k4 : (0 : Int) ≤ (at_ : Int) := by omega
      have k5 : ((S.length : Int) == 0) = false := by rw [beq_eq_false_iff_ne]; omega
      have k6 : ¬ (S.length : Int) = 0 := by omega
      have K2 := Lib.hid (show Tw w (w.heap.size + 1) S.length (S.set i v) #[.int .u16 (at_ : Int), .int .u8 (by_ : Int), .int .i64 stay] (wb.setCell ⟨w.heap.size + 1, i, none⟩ (.int .u8 (v.toNat : Int))) from by
        have ho := Only.set (w.heap.size + 1) i (.int .u8 (v.toNat : Int)) wb
        obtain ⟨h1, h2, h3, h4, h5, h6⟩ := K.out
        exact ⟨h1.trans (ho.below (by omega) h1.size), (ho.block _ (lit_lt h2) (by omega)).trans h2, set_cells h3, by simp, h5, Nat.lt_of_lt_of_le h6 ho.size⟩)
      generalize (S[i].toNat : Int) = si at *
      clear h0 hi hie
      go_upto_region 3 with fail
      go_region
      go_wp2
      go_meet
      exact ⟨_, Lib.hid (tw_drew K2.out)⟩
    · have h1 : S.length = 0 := by omega
      have k0 : ¬ (0 : Int) < (S.length : Int) := by omega
      have K2 := Lib.hid K.out
      clear h0 h1
      go_wp2
      go_meet
      exact ⟨_, K2⟩
  case rest =>
  obtain ⟨L, K⟩ := hcut
  have a2 := (lit_cell K.out.x 2).trans rfl
  by_cases hs : 0 ≤ stay ∧ stay < (S.length : Int)
  · obtain ⟨m, rfl⟩ : ∃ m : Nat, stay = (m : Int) := ⟨stay.toNat, by omega⟩
    have k1 : (0 : Int) ≤ (m : Int) := by omega
    have k2 : (m : Int) < (S.length : Int) := hs.2
    have k3 : (m : Int) ≤ (cap : Int) := by have := HCP.out.1; omega
    have hl := K.out.l
    have hml : (L.take m).length = m := by rw [List.length_take]; omega
    have hconv := run_convert_bytes_back (P := Tryz.prog) wc 77 9 5 ⟨w.heap.size + 1, 0, none⟩ cap (L.take m) Tryz.underlying77 Tryz.underlying5 Tryz.underlying9 (fun j hj => by
      rw [List.length_take] at hj
      have := K.out.r.c j (by omega)
      rw [Addr.add_mid, Nat.zero_add, this, List.getElem_take])
    rw [hml] at hconv
    have HT := Lib.hid (show (L.take m).length ≤ S.length by rw [hml]; omega)
    clear hl hml hs
    generalize L.take m = T at *
    go_wp2
    go_ret
    exact ⟨T, rfl, HT.out, K.out.o⟩
  · have hl := K.out.l
    have hconv := run_convert_bytes_back (P := Tryz.prog) wc 77 9 5 ⟨w.heap.size + 1, 0, none⟩ cap L Tryz.underlying77 Tryz.underlying5 Tryz.underlying9 (fun j hj => by
      have := K.out.r.c j hj
      rw [Addr.add_mid, Nat.zero_add, this])
    rw [hl] at hconv
    have HT := Lib.hid (show L.length ≤ S.length by omega)
    clear hl
    by_cases h1 : 0 ≤ stay
    · have k2 : ¬ stay < (S.length : Int) := fun h => hs ⟨h1, h⟩
      clear hs
      go_wp2
      go_ret
      exact ⟨L, rfl, HT.out, K.out.o⟩
    · clear hs
      go_wp2
      go_ret
      exact ⟨L, rfl, HT.out, K.out.o⟩
end Go.Proofs.YtlhmmplkdjibkaaGreatDoor
/- The reference's lists of digests; whether they may be; a map being laid, in a walk. -/
namespace Go.Proofs.YtlhmmplkdjibkaaGreatDoor
open Go.RowKit

theorem rbinP_len (s : (List UInt8)) : (binP s).length ≤ 3 + s.length := by
  rw [binP, List.length_append]; have := headP_len 1 s.length; omega
theorem digs_len (M : Nat) : ∀ (L : List (List UInt8)), (∀ x ∈ L, x.length ≤ M) → (L.flatMap binP).length ≤ L.length * (M + 3)
  | [], _ => by simp
  | x :: L, h => by
    have h1 := digs_len M L (fun y hy => h y (by simp [hy]))
    have h2 := rbinP_len x
    have h3 := h x (by simp)
    rw [List.flatMap_cons, List.length_append, List.length_cons, Nat.add_mul]
    omega
theorem rdigsP_len (L : List (List UInt8)) (hl : L.length ≤ 1000) (h : ∀ x ∈ L, x.length ≤ 60000) : (digsP L).length ≤ 100000000 := by
  have h1 := digs_len 60000 L h
  have h2 := headP_len 3 L.length
  have h3 : L.length * 60003 ≤ 1000 * 60003 := Nat.mul_le_mul_right _ hl
  unfold digsP
  split
  · simp
  · rw [List.length_append]; omega
theorem take_binP (L : List (List UInt8)) (k : Nat) (hk : k < L.length) : (L.take (k + 1)).flatMap binP = (L.take k).flatMap binP ++ binP L[k] := by
  rw [List.take_succ_eq_append_getElem hk, List.flatMap_append]; simp
set_option maxRecDepth 100000 in
theorem digests_any (ao : Option Addr) (cp : Nat) (L : List (List UInt8)) (w : World) (hS : Strs ao L w) (hl : L.length ≤ 10240) (ht : ∀ x ∈ L, x.length ≤ 60000) :
    Calls Tryz.prog 21 #[.slice ao L.length cp] w fun e w' => e = .returned (.string ⟨(digsP L).toArray⟩) ∧ Below w.heap.size w w' := by
  by_cases h0 : L = []
  · subst h0
    have HE := Lib.hid (show digsP [] = [] from rfl)
    rw [HE.out]
    clear hl ht
    go_enter Tryz.func21, Tryz.ntmps21
    go_wp2
    go_ret
    exact ⟨rfl, Below.refl _ _⟩
  · have HE := Lib.hid (show digsP L = headP 3 L.length ++ L.flatMap binP from if_neg h0)
    rw [HE.out]
    have hne : ((L.length : Int) == 0) = false := by
      rw [beq_eq_false_iff_ne]
      intro e
      exact h0 (List.eq_nil_of_length_eq_zero (by omega))
    have HH := Lib.hid (whead_any L.length w (by omega))
    have HS := Lib.hid hS
    have HB := Lib.hid (fun (w : World) (k : Nat) (hk : k < L.length) => wbin_any L[k] w (by have := ht _ (List.getElem_mem hk); omega))
    have HC := Lib.hid (fun (k : Nat) (hk : k < L.length) => show ∀ w, _ from run_cat (headP 3 L.length ++ (L.take k).flatMap binP) (binP L[k]) (by
      have h1 := digs_len 60000 (L.take k) (fun x hx => ht x (List.mem_of_mem_take hx))
      have h2 := headP_len 3 L.length
      have h3 := rbinP_len L[k]
      have h4 := ht _ (List.getElem_mem hk)
      rw [List.length_take] at h1
      have h5 : min k L.length * 60003 ≤ 10240 * 60003 := Nat.mul_le_mul_right _ (by omega)
      rw [List.length_append]
      omega))
    have HL := Lib.hid hl
    clear h0 hS ht hl
    obtain ⟨H, hH⟩ : ∃ H, headP 3 L.length = H := ⟨_, rfl⟩
    rw [hH] at HH HC ⊢
    clear hH
    go_enter Tryz.func21, Tryz.ntmps21
    go_wp2_with (go_at_call 23; refine HH.out.mono ?_; rintro e w1 ⟨rfl, hb1⟩)
    have HB1 := Lib.hid hb1
    clear hb1
    go_loopw [3, 4] (fun s i wr => ∃ k : Nat, k ≤ L.length ∧ i = .int .i64 (k : Int) ∧ s = .string ⟨(H ++ (L.take k).flatMap binP).toArray⟩ ∧ Below w.heap.size w wr)
      (fun _ i _ => L.length - (intOf i).toNat)
    case atStart => exact ⟨0, Nat.zero_le _, rfl, by simp, HB1.out⟩
    case round =>
      obtain ⟨k, hk, rfl, rfl, hbe⟩ := hrel
      by_cases hlt : k < L.length
      · obtain ⟨bb, off, rfl, hcell⟩ := (HS.out.below (Nat.le_refl _) hbe).cell k hlt
        have k1 : (k : Int) < (L.length : Int) := by omega
        have k0 : (0 : Int) ≤ (k : Int) := by omega
        have hcat := HC.out k hlt
        rw [List.append_assoc, ← take_binP L k hlt] at hcat
        have HBK := Lib.hid (fun w => HB.out w k hlt)
        have HLT := Lib.hid hlt
        generalize hx : L[k] = x at *
        clear hx hlt hk
        generalize binP x = X at *
        obtain ⟨Y2, hY2⟩ : ∃ Y2, H ++ (L.take (k + 1)).flatMap binP = Y2 := ⟨_, rfl⟩
        rw [hY2] at hcat
        have HY2 := Lib.hid hY2
        clear hY2
        have k6 : (k : Int) ≤ 10240 := by have := HL.out; have := HLT.out; omega
        generalize H ++ (L.take k).flatMap binP = Y1 at *
        go_wp2_with (go_at_call 22; refine (HBK.out _).mono ?_; rintro e w3 ⟨rfl, hb3⟩; have hbe3 := hbe.trans (hb3.mono hbe.size))
        go_roundw
        case rel => exact ⟨k + 1, HLT.out, by go_num, by rw [HY2.out], hbe3⟩
        case measure => have := HLT.out; simp [intOf] <;> omega
      · have k1 : ¬ (k : Int) < (L.length : Int) := by omega
        obtain rfl : k = L.length := by omega
        rw [List.take_length]
        clear hlt hk
        go_wp2
        go_ret
        exact ⟨rfl, hbe⟩

theorem all_take (L : List (List UInt8)) (k : Nat) (hk : k < L.length) (h : (L.take k).all digB = true) : (L.take (k + 1)).all digB = digB L[k] := by
  rw [List.take_succ_eq_append_getElem hk, List.all_append, h]; simp
theorem all_no (L : List (List UInt8)) (k : Nat) (hk : k < L.length) (h : digB L[k] = false) : L.all digB = false := by
  rw [List.all_eq_false]; exact ⟨_, List.getElem_mem hk, by rw [h]; decide⟩
set_option maxRecDepth 100000 in
theorem may_any (ao : Option Addr) (cp : Nat) (L : List (List UInt8)) (n : Nat) (w : World) (hS : Strs ao L w) (hl : L.length ≤ 1000000) :
    Calls Tryz.prog 18 #[.slice ao L.length cp, .int .i64 (n : Int)] w fun e w' => e = .returned (.bool (mayB L n)) ∧ Below w.heap.size w w' := by
  have HS := Lib.hid hS
  have HL := Lib.hid hl
  clear hS hl
  go_enter Tryz.func18, Tryz.ntmps18
  go_wp2_with fail
  go_loopw [5] (fun i wr => ∃ k : Nat, k ≤ L.length ∧ i = .int .i64 (k : Int) ∧ Hid ((L.take k).all digB = true) ∧ Below w.heap.size w wr)
    (fun i _ => L.length - (intOf i).toNat)
  case atStart => exact ⟨0, Nat.zero_le _, rfl, Lib.hid rfl, Below.refl _ _⟩
  case round =>
    obtain ⟨k, hk, rfl, HA, hbe⟩ := hrel
    by_cases hlt : k < L.length
    · obtain ⟨bb, off, rfl, hcell⟩ := (HS.out.below (Nat.le_refl _) hbe).cell k hlt
      have k1 : (k : Int) < (L.length : Int) := by omega
      have k0 : (0 : Int) ≤ (k : Int) := by omega
      have k6 : (k : Int) ≤ 1000000 := by have := HL.out; omega
      have HD := Lib.hid (fun w => wdigest_any L[k] w)
      cases hd : digB L[k] with
      | true =>
        rw [hd] at HD
        have HA2 := Lib.hid ((all_take L k hlt HA.out).trans hd)
        have HLT := Lib.hid hlt
        clear hd
        generalize hx : L[k] = x at *
        clear hx hlt hk HA
        go_wp2_with (go_at_call 17; refine (HD.out _).mono ?_; rintro e w3 ⟨rfl, rfl⟩)
        go_roundw
        case rel => exact ⟨k + 1, HLT.out, by go_num, HA2, hbe⟩
        case measure => have := HLT.out; simp [intOf] <;> omega
      | false =>
        rw [hd] at HD
        have HE := Lib.hid (show mayB L n = false by rw [mayB, all_no L k hlt hd, Bool.false_and])
        clear hd
        generalize hx : L[k] = x at *
        clear hx hlt hk HA
        go_wp2_with (go_at_call 17; refine (HD.out _).mono ?_; rintro e w3 ⟨rfl, rfl⟩)
        go_ret
        exact ⟨by rw [HE.out]; rfl, hbe⟩
    · have k1 : ¬ (k : Int) < (L.length : Int) := by omega
      obtain rfl : k = L.length := by omega
      rw [List.take_length] at HA
      clear hlt hk
      by_cases hn : L.length ≤ n
      · have HE := Lib.hid (show mayB L n = true by rw [mayB, HA.out, Bool.true_and]; exact decide_eq_true hn)
        have j1 : (L.length : Int) ≤ (n : Int) := by omega
        clear hn
        go_wp2
        all_goals go_ret
        all_goals first | exact ⟨by rw [HE.out]; rfl, hbe⟩ | exact ⟨by rw [HE.out]; simp [j1], hbe⟩
      · have HE := Lib.hid (show mayB L n = false by rw [mayB, HA.out, Bool.true_and]; exact decide_eq_false hn)
        have j1 : ¬ (L.length : Int) ≤ (n : Int) := by omega
        clear hn
        go_wp2
        all_goals go_ret
        all_goals first | exact ⟨by rw [HE.out]; rfl, hbe⟩ | exact ⟨by rw [HE.out]; simp [j1], hbe⟩

/-- a signature as a value: its lists lie in memory -/
structure SigV (g : SigR) (aw ap : Option Addr) (w : World) : Prop where
  ws : Strs aw g.wots w
  ps : Strs ap g.path w
theorem SigV.below {g : SigR} {aw ap : Option Addr} {w w' : World} {B : Nat} (h : SigV g aw ap w) (hB : w.heap.size ≤ B) (hb : Below B w w') : SigV g aw ap w' := ⟨h.ws.below hB hb, h.ps.below hB hb⟩
/-- what its numbers and texts may be -/
structure RSig (g : SigR) : Prop where
  i : g.index < 18446744073709551616
  wl : g.wots.length ≤ 1000
  pl : g.path.length ≤ 1000
  wt : ∀ x ∈ g.wots, x.length ≤ 60000
  pt : ∀ x ∈ g.path, x.length ≤ 60000
set_option maxRecDepth 100000 in
theorem maySig_any (g : SigR) (aw ap : Option Addr) (cw cp : Nat) (w : World) (hV : SigV g aw ap w) (hI : RSig g) :
    Calls Tryz.prog 19 #[.agg #[.int .u64 (g.index : Int), .slice aw g.wots.length cw, .slice ap g.path.length cp]] w fun e w' => e = .returned (.bool (maySigB g)) ∧ Below w.heap.size w w' := by
  have hb0 := by0 w (.cells #[.int .u64 (g.index : Int), .slice aw g.wots.length cw, .slice ap g.path.length cp] 51)
  have HB0 := Lib.hid hb0
  have HP := Lib.hid (fun w' (hb : Below w.heap.size w w') => may_any ap cp g.path 16 w' (hV.ps.below (Nat.le_refl _) hb) (by have := hI.pl; omega))
  have HW := Lib.hid (fun w' (hb : Below w.heap.size w w') => may_any aw cw g.wots 67 w' (hV.ws.below (Nat.le_refl _) hb) (by have := hI.wl; omega))
  have HN := Lib.hid (heap_alloc_new w (.cells #[.int .u64 (g.index : Int), .slice aw g.wots.length cw, .slice ap g.path.length cp] 51))
  have HE := Lib.hid (show maySigB g = (mayB g.path 16 && mayB g.wots 67) from rfl)
  clear hV hI hb0
  rw [HE.out]
  generalize mayB g.path 16 = p at *
  generalize mayB g.wots 67 = q at *
  cases p with
  | false =>
    go_enter Tryz.func19, Tryz.ntmps19
    go_wp2_with (go_at_call 18; refine (HP.out _ HB0.out).mono ?_; rintro e w1 ⟨rfl, hb⟩)
    go_ret
    exact ⟨rfl, HB0.out.trans (hb.mono HB0.out.size)⟩
  | true =>
    go_enter Tryz.func19, Tryz.ntmps19
    go_wp2_with fail
    refine (HP.out _ HB0.out).mono ?_
    rintro e w1 ⟨rfl, hb⟩
    have HB1 := Lib.hid (HB0.out.trans (hb.mono HB0.out.size))
    have hn1 := (hb.block _ (lit_lt HN.out)).trans HN.out
    have c1 := (lit_cell hn1 1).trans rfl
    clear hb
    go_wp2_with fail
    refine (HW.out _ HB1.out).mono ?_
    rintro e w2 ⟨rfl, hb⟩
    have HB2 := Lib.hid (HB1.out.trans (hb.mono HB1.out.size))
    clear hb
    go_wp2
    go_ret
    exact ⟨rfl, HB2.out⟩
end Go.Proofs.YtlhmmplkdjibkaaGreatDoor
/- The reference's layings: a participant, a signature, a slot, a reveal; Part, Slot, Msg, Header. -/
namespace Go.Proofs.YtlhmmplkdjibkaaGreatDoor
open Go.RowKit

theorem prsB_len (fs : List (UInt8 × (List UInt8))) : (prsB fs).length ≤ (fs.map fun f => 2 + f.2.length).sum := by
  unfold prsB prs
  induction fs with
  | nil => simp
  | cons f fs ih =>
    rw [List.filter_cons, List.map_cons, List.sum_cons]
    split
    · rw [List.flatMap_cons, List.length_append]
      simp only [List.length_cons]
      omega
    · omega
/-- what a laying's walk keeps: the thing, boxed at X; the map that is being laid, at b -/
structure Ly (w0 : World) (X : Nat) (cs : Array Value) (T : TypeId) (b : Nat) (fs : List (UInt8 × (List UInt8))) (wz : World) : Prop where
  o : Below w0.heap.size w0 wz
  x : wz.heap[X]? = some (.cells cs T (0, 0))
  l : LayAt b fs wz
  hb : w0.heap.size ≤ b
  ne : X ≠ b
theorem Ly.next {w0 wz wa : World} {X b : Nat} {cs : Array Value} {T : TypeId} {fs : List (UInt8 × (List UInt8))} (h : Ly w0 X cs T b fs wz) (hb : Below wz.heap.size wz wa) : Ly w0 X cs T b fs wa :=
  ⟨h.o.trans (hb.mono h.o.size), (hb.block X (lit_lt h.x)).trans h.x, (hb.block b (lit_lt h.l)).trans h.l, h.hb, h.ne⟩
theorem Ly.puts {w0 wz : World} {X b : Nat} {cs : Array Value} {T : TypeId} {fs : List (UInt8 × (List UInt8))} (c : UInt8) (v : (List UInt8)) (h : Ly w0 X cs T b fs wz) (h8 : fs.length < 100) (hB : (fs.map fun f => 2 + f.2.length).sum ≤ 1000000000) (hv : v.length ≤ 1000000000) :
    Calls Tryz.prog 20 #[.pointer (some ⟨b, 0, none⟩), .string ⟨#[c]⟩, .string ⟨v.toArray⟩] wz fun e w' => e = .returned (.tuple #[]) ∧ Ly w0 X cs T b (fs ++ [(c, v)]) w' := by
  refine (put_any b fs c v wz h.l h8 (Nat.le_trans (prsB_len fs) hB) hv).mono ?_
  rintro e w' ⟨rfl, hl, ho⟩
  exact ⟨rfl, h.o.trans (ho.below h.hb h.o.size), (ho.block X (lit_lt h.x) h.ne).trans h.x, hl, h.hb, h.ne⟩
theorem Ly.start (w : World) (cs : Array Value) (T : TypeId) : Ly w w.heap.size cs T (w.heap.size + 1) [] ((w.alloc (.cells cs T)).alloc (.cells #[.int .u64 0, .string ⟨#[]⟩] 68)) := by
  refine ⟨(by0 w _).alloc (by simp) _, lit_old _ (heap_alloc_new w _), ?_, by omega, by omega⟩
  unfold LayAt
  rw [show w.heap.size + 1 = (w.alloc (.cells cs T)).heap.size by simp]
  exact heap_alloc_new _ _
theorem Ly.start2 {w w1 : World} {X : Nat} {cs : Array Value} {T : TypeId} (hb : Below w.heap.size w w1) (hx : w1.heap[X]? = some (.cells cs T (0, 0))) : Ly w X cs T w1.heap.size [] (w1.alloc (.cells #[.int .u64 0, .string ⟨#[]⟩] 68)) :=
  ⟨hb.trans ((by0 w1 _).mono hb.size), lit_old _ hx, by unfold LayAt; exact heap_alloc_new _ _, hb.size, by have := lit_lt hx; omega⟩
theorem mapP_snoc_nil (fs : List (UInt8 × (List UInt8))) (c : UInt8) : mapP (fs ++ [(c, [])]) = mapP fs := by
  unfold mapP
  rw [prs_snoc, prsB_snoc, if_pos rfl, if_pos rfl]
theorem numZ_b (n : Nat) : (numZ n).length ≤ 10000 := by have := numZ_len n; omega
theorem binP_b (s : (List UInt8)) (h : s.length ≤ 5000) : (binP s).length ≤ 10000 := by have := rbinP_len s; omega
theorem digs_b (l : List (List UInt8)) (hl : l.length ≤ 1000) (h : ∀ x ∈ l, x.length ≤ 60000) : (digsP l).length ≤ 100000000 := rdigsP_len l hl h
theorem mapP_b (fs : List (UInt8 × (List UInt8))) (n : Nat) (h : (fs.map fun f => 2 + f.2.length).sum ≤ n) : (mapP fs).length ≤ n + 3 := by have := mapP_len fs; omega
theorem small_b (s : (List UInt8)) (n : Nat) (h : s.length ≤ n) : (smallP s).length ≤ n := Nat.le_trans (smallP_len s) h
theorem LayAt.skip {b : Nat} {fs : List (UInt8 × (List UInt8))} {w : World} (c : UInt8) (h : LayAt b fs w) : LayAt b (fs ++ [(c, [])]) w := by
  unfold LayAt
  rw [prs_snoc, prsB_snoc, if_pos rfl, if_pos rfl]
  exact h

set_option maxRecDepth 100000 in
set_option maxHeartbeats 1000000 in
theorem layPart_any (p : PartR) (w : World) (hI : PartIn p) (hr : p.root.length ≤ 5000) :
    Calls Tryz.prog 55 #[partV p] w fun e w' => e = .returned (.string ⟨(mapP (partF p)).toArray⟩) ∧ Below w.heap.size w w' := by
  show Calls Tryz.prog 55 _ w fun e w' => e = .returned (.string ⟨(mapP [(102, numZ p.first), (107, numZ p.keys), (108, numZ p.life), (114, binP p.root), (119, numZ p.weight)]).toArray⟩) ∧ Below w.heap.size w w'
  have K := Lib.hid (Ly.start w #[.string ⟨p.root.toArray⟩, .int .u64 (p.weight : Int), .int .u64 (p.first : Int), .int .u64 (p.life : Int), .int .u64 (p.keys : Int)] 55)
  have b0 : (numZ p.first).length ≤ 10000 := by have := numZ_b p.first; omega
  have b1 : (numZ p.keys).length ≤ 10000 := by have := numZ_b p.keys; omega
  have b2 : (numZ p.life).length ≤ 10000 := by have := numZ_b p.life; omega
  have b3 : (binP p.root).length ≤ 10000 := by have := binP_b p.root hr; omega
  have b4 : (numZ p.weight).length ≤ 10000 := by have := numZ_b p.weight; omega
  have HF0 := Lib.hid (fun (wz : World) (hz : Below w.heap.size w wz) => wnum_any p.first wz hI.f)
  have HF1 := Lib.hid (fun (wz : World) (hz : Below w.heap.size w wz) => wnum_any p.keys wz hI.k)
  have HF2 := Lib.hid (fun (wz : World) (hz : Below w.heap.size w wz) => wnum_any p.life wz hI.l)
  have HF3 := Lib.hid (fun (wz : World) (hz : Below w.heap.size w wz) => wbin_any p.root wz (by omega))
  have HF4 := Lib.hid (fun (wz : World) (hz : Below w.heap.size w wz) => wnum_any p.weight wz hI.w)
  have HP0 := Lib.hid (fun (b : Nat) (wz : World) (h : Ly w w.heap.size #[.string ⟨p.root.toArray⟩, .int .u64 (p.weight : Int), .int .u64 (p.first : Int), .int .u64 (p.life : Int), .int .u64 (p.keys : Int)] 55 b [] wz) => h.puts 102 (numZ p.first) (by simp) (by simp) (by omega))
  have HP1 := Lib.hid (fun (b : Nat) (wz : World) (h : Ly w w.heap.size #[.string ⟨p.root.toArray⟩, .int .u64 (p.weight : Int), .int .u64 (p.first : Int), .int .u64 (p.life : Int), .int .u64 (p.keys : Int)] 55 b [(102, numZ p.first)] wz) => h.puts 107 (numZ p.keys) (by simp) (by simp only [List.map_cons, List.map_nil, List.sum_cons, List.sum_nil]; omega) (by omega))
  have HP2 := Lib.hid (fun (b : Nat) (wz : World) (h : Ly w w.heap.size #[.string ⟨p.root.toArray⟩, .int .u64 (p.weight : Int), .int .u64 (p.first : Int), .int .u64 (p.life : Int), .int .u64 (p.keys : Int)] 55 b [(102, numZ p.first), (107, numZ p.keys)] wz) => h.puts 108 (numZ p.life) (by simp) (by simp only [List.map_cons, List.map_nil, List.sum_cons, List.sum_nil]; omega) (by omega))
  have HP3 := Lib.hid (fun (b : Nat) (wz : World) (h : Ly w w.heap.size #[.string ⟨p.root.toArray⟩, .int .u64 (p.weight : Int), .int .u64 (p.first : Int), .int .u64 (p.life : Int), .int .u64 (p.keys : Int)] 55 b [(102, numZ p.first), (107, numZ p.keys), (108, numZ p.life)] wz) => h.puts 114 (binP p.root) (by simp) (by simp only [List.map_cons, List.map_nil, List.sum_cons, List.sum_nil]; omega) (by omega))
  have HP4 := Lib.hid (fun (b : Nat) (wz : World) (h : Ly w w.heap.size #[.string ⟨p.root.toArray⟩, .int .u64 (p.weight : Int), .int .u64 (p.first : Int), .int .u64 (p.life : Int), .int .u64 (p.keys : Int)] 55 b [(102, numZ p.first), (107, numZ p.keys), (108, numZ p.life), (114, binP p.root)] wz) => h.puts 119 (numZ p.weight) (by simp) (by simp only [List.map_cons, List.map_nil, List.sum_cons, List.sum_nil]; omega) (by omega))
  have HW := Lib.hid (fun (b : Nat) (wz : World) (h : Ly w w.heap.size #[.string ⟨p.root.toArray⟩, .int .u64 (p.weight : Int), .int .u64 (p.first : Int), .int .u64 (p.life : Int), .int .u64 (p.keys : Int)] 55 b [(102, numZ p.first), (107, numZ p.keys), (108, numZ p.life), (114, binP p.root), (119, numZ p.weight)] wz) => whole_any b [(102, numZ p.first), (107, numZ p.keys), (108, numZ p.life), (114, binP p.root), (119, numZ p.weight)] wz h.l (by simp) (Nat.le_trans (prsB_len _) (by simp only [List.map_cons, List.map_nil, List.sum_cons, List.sum_nil]; omega)))
  simp only [List.cons_append, List.nil_append] at HP0 HP1 HP2 HP3 HP4
  clear b0 b1 b2 b3 b4
  generalize mapP [(102, numZ p.first), (107, numZ p.keys), (108, numZ p.life), (114, binP p.root), (119, numZ p.weight)] = MM at *
  generalize numZ p.first = V0 at *
  generalize numZ p.keys = V1 at *
  generalize numZ p.life = V2 at *
  generalize binP p.root = V3 at *
  generalize numZ p.weight = V4 at *
  go_enter Tryz.func55, Tryz.ntmps55
  go_upto_region 2 with fail
  change Code.wp _ _ _ _ ((w.alloc (.cells #[.string ⟨p.root.toArray⟩, .int .u64 (p.weight : Int), .int .u64 (p.first : Int), .int .u64 (p.life : Int), .int .u64 (p.keys : Int)] 55)).alloc (.cells #[.int .u64 0, .string ⟨#[]⟩] 68))
  generalize (w.alloc (.cells #[.string ⟨p.root.toArray⟩, .int .u64 (p.weight : Int), .int .u64 (p.first : Int), .int .u64 (p.life : Int), .int .u64 (p.keys : Int)] 55)).alloc (.cells #[.int .u64 0, .string ⟨#[]⟩] 68) = w1 at *
  have z2 := (lit_cell K.out.x 2).trans rfl
  go_wp2_with fail
  refine (HF0.out _ K.out.o).mono ?_
  rintro e wa0 ⟨rfl, hb⟩
  have K := Lib.hid (K.out.next hb)
  clear hb HF0 z2
  go_wp2_with fail
  refine (HP0.out _ _ K.out).mono ?_
  rintro e wc0 ⟨rfl, hk⟩
  have K := Lib.hid hk
  clear hk HP0
  have z4 := (lit_cell K.out.x 4).trans rfl
  go_wp2_with fail
  refine (HF1.out _ K.out.o).mono ?_
  rintro e wa1 ⟨rfl, hb⟩
  have K := Lib.hid (K.out.next hb)
  clear hb HF1 z4
  go_wp2_with fail
  refine (HP1.out _ _ K.out).mono ?_
  rintro e wc1 ⟨rfl, hk⟩
  have K := Lib.hid hk
  clear hk HP1
  have z3 := (lit_cell K.out.x 3).trans rfl
  go_wp2_with fail
  refine (HF2.out _ K.out.o).mono ?_
  rintro e wa2 ⟨rfl, hb⟩
  have K := Lib.hid (K.out.next hb)
  clear hb HF2 z3
  go_wp2_with fail
  refine (HP2.out _ _ K.out).mono ?_
  rintro e wc2 ⟨rfl, hk⟩
  have K := Lib.hid hk
  clear hk HP2
  have z0 := (lit_cell K.out.x 0).trans rfl
  go_wp2_with fail
  refine (HF3.out _ K.out.o).mono ?_
  rintro e wa3 ⟨rfl, hb⟩
  have K := Lib.hid (K.out.next hb)
  clear hb HF3 z0
  go_wp2_with fail
  refine (HP3.out _ _ K.out).mono ?_
  rintro e wc3 ⟨rfl, hk⟩
  have K := Lib.hid hk
  clear hk HP3
  have z1 := (lit_cell K.out.x 1).trans rfl
  go_wp2_with fail
  refine (HF4.out _ K.out.o).mono ?_
  rintro e wa4 ⟨rfl, hb⟩
  have K := Lib.hid (K.out.next hb)
  clear hb HF4 z1
  go_wp2_with fail
  refine (HP4.out _ _ K.out).mono ?_
  rintro e wc4 ⟨rfl, hk⟩
  have K := Lib.hid hk
  clear hk HP4
  go_wp2_with fail
  refine (HW.out _ _ K.out).mono ?_
  rintro e wd ⟨rfl, hb⟩
  go_wp2
  go_ret
  exact ⟨rfl, (K.out.next hb).o⟩
set_option maxRecDepth 100000 in
set_option maxHeartbeats 1000000 in
theorem laySig_any (g : SigR) (aw ap : Option Addr) (cw cp : Nat) (w : World) (hV : SigV g aw ap w) (hI : RSig g) :
    Calls Tryz.prog 110 #[.agg #[.int .u64 (g.index : Int), .slice aw g.wots.length cw, .slice ap g.path.length cp]] w fun e w' => e = .returned (.string ⟨(mapP (sigF g)).toArray⟩) ∧ Below w.heap.size w w' := by
  show Calls Tryz.prog 110 _ w fun e w' => e = .returned (.string ⟨(mapP [(105, numZ g.index), (112, digsP g.path), (118, digsP g.wots)]).toArray⟩) ∧ Below w.heap.size w w'
  have K := Lib.hid (Ly.start w #[.int .u64 (g.index : Int), .slice aw g.wots.length cw, .slice ap g.path.length cp] 51)
  have b0 : (numZ g.index).length ≤ 10000 := by have := numZ_b g.index; omega
  have b1 : (digsP g.path).length ≤ 100000000 := by have := digs_b g.path hI.pl hI.pt; omega
  have b2 : (digsP g.wots).length ≤ 100000000 := by have := digs_b g.wots hI.wl hI.wt; omega
  have HF0 := Lib.hid (fun (wz : World) (hz : Below w.heap.size w wz) => wnum_any g.index wz hI.i)
  have HF1 := Lib.hid (fun (wz : World) (hz : Below w.heap.size w wz) => digests_any ap cp g.path wz (hV.ps.below (Nat.le_refl _) hz) (Nat.le_trans hI.pl (by decide)) hI.pt)
  have HF2 := Lib.hid (fun (wz : World) (hz : Below w.heap.size w wz) => digests_any aw cw g.wots wz (hV.ws.below (Nat.le_refl _) hz) (Nat.le_trans hI.wl (by decide)) hI.wt)
  have HP0 := Lib.hid (fun (b : Nat) (wz : World) (h : Ly w w.heap.size #[.int .u64 (g.index : Int), .slice aw g.wots.length cw, .slice ap g.path.length cp] 51 b [] wz) => h.puts 105 (numZ g.index) (by simp) (by simp) (by omega))
  have HP1 := Lib.hid (fun (b : Nat) (wz : World) (h : Ly w w.heap.size #[.int .u64 (g.index : Int), .slice aw g.wots.length cw, .slice ap g.path.length cp] 51 b [(105, numZ g.index)] wz) => h.puts 112 (digsP g.path) (by simp) (by simp only [List.map_cons, List.map_nil, List.sum_cons, List.sum_nil]; omega) (by omega))
  have HP2 := Lib.hid (fun (b : Nat) (wz : World) (h : Ly w w.heap.size #[.int .u64 (g.index : Int), .slice aw g.wots.length cw, .slice ap g.path.length cp] 51 b [(105, numZ g.index), (112, digsP g.path)] wz) => h.puts 118 (digsP g.wots) (by simp) (by simp only [List.map_cons, List.map_nil, List.sum_cons, List.sum_nil]; omega) (by omega))
  have HW := Lib.hid (fun (b : Nat) (wz : World) (h : Ly w w.heap.size #[.int .u64 (g.index : Int), .slice aw g.wots.length cw, .slice ap g.path.length cp] 51 b [(105, numZ g.index), (112, digsP g.path), (118, digsP g.wots)] wz) => whole_any b [(105, numZ g.index), (112, digsP g.path), (118, digsP g.wots)] wz h.l (by simp) (Nat.le_trans (prsB_len _) (by simp only [List.map_cons, List.map_nil, List.sum_cons, List.sum_nil]; omega)))
  simp only [List.cons_append, List.nil_append] at HP0 HP1 HP2
  clear b0 b1 b2
  generalize mapP [(105, numZ g.index), (112, digsP g.path), (118, digsP g.wots)] = MM at *
  generalize numZ g.index = V0 at *
  generalize digsP g.path = V1 at *
  generalize digsP g.wots = V2 at *
  go_enter Tryz.func110, Tryz.ntmps110
  go_upto_region 2 with fail
  change Code.wp _ _ _ _ ((w.alloc (.cells #[.int .u64 (g.index : Int), .slice aw g.wots.length cw, .slice ap g.path.length cp] 51)).alloc (.cells #[.int .u64 0, .string ⟨#[]⟩] 68))
  generalize (w.alloc (.cells #[.int .u64 (g.index : Int), .slice aw g.wots.length cw, .slice ap g.path.length cp] 51)).alloc (.cells #[.int .u64 0, .string ⟨#[]⟩] 68) = w1 at *
  have z0 := (lit_cell K.out.x 0).trans rfl
  go_wp2_with fail
  refine (HF0.out _ K.out.o).mono ?_
  rintro e wa0 ⟨rfl, hb⟩
  have K := Lib.hid (K.out.next hb)
  clear hb HF0 z0
  go_wp2_with fail
  refine (HP0.out _ _ K.out).mono ?_
  rintro e wc0 ⟨rfl, hk⟩
  have K := Lib.hid hk
  clear hk HP0
  have z2 := (lit_cell K.out.x 2).trans rfl
  go_wp2_with fail
  refine (HF1.out _ K.out.o).mono ?_
  rintro e wa1 ⟨rfl, hb⟩
  have K := Lib.hid (K.out.next hb)
  clear hb HF1 z2
  go_wp2_with fail
  refine (HP1.out _ _ K.out).mono ?_
  rintro e wc1 ⟨rfl, hk⟩
  have K := Lib.hid hk
  clear hk HP1
  have z1 := (lit_cell K.out.x 1).trans rfl
  go_wp2_with fail
  refine (HF2.out _ K.out.o).mono ?_
  rintro e wa2 ⟨rfl, hb⟩
  have K := Lib.hid (K.out.next hb)
  clear hb HF2 z1
  go_wp2_with fail
  refine (HP2.out _ _ K.out).mono ?_
  rintro e wc2 ⟨rfl, hk⟩
  have K := Lib.hid hk
  clear hk HP2
  go_wp2_with fail
  refine (HW.out _ _ K.out).mono ?_
  rintro e wd ⟨rfl, hb⟩
  go_wp2
  go_ret
  exact ⟨rfl, (K.out.next hb).o⟩
theorem sigM_b (g : SigR) (hI : RSig g) : (mapP (sigF g)).length ≤ 200020012 := by
  have := mapP_b (sigF g) 200020009 (by
    unfold sigF
    simp only [List.map_cons, List.map_nil, List.sum_cons, List.sum_nil]
    have := numZ_b g.index; have := digs_b g.path hI.pl hI.pt; have := digs_b g.wots hI.wl hI.wt; omega)
  omega
set_option maxRecDepth 100000 in
set_option maxHeartbeats 1000000 in
theorem laySlot_true (x : SlotR) (wa pa : Option Addr) (wc pc : Nat) (w : World) (hM : SlotM ⟨x, wa, wc, pa, pc⟩ w) (hl : x.l < 18446744073709551616) (hI : RSig x.sig) :
    Calls Tryz.prog 57 #[.agg #[.int .u64 (x.l : Int), .bool true, .int .u64 (x.sig.index : Int), .slice wa x.sig.wots.length wc, .slice pa x.sig.path.length pc]] w fun e w' => e = .returned (.string ⟨(mapP ([(103, smallP (mapP (sigF x.sig))), (108, numZ x.l), (115, numZ 1)])).toArray⟩) ∧ Below w.heap.size w w' := by
  show Calls Tryz.prog 57 _ w fun e w' => e = .returned (.string ⟨(mapP [(103, smallP (mapP (sigF x.sig))), (108, numZ x.l), (115, numZ 1)]).toArray⟩) ∧ Below w.heap.size w w'
  have K := Lib.hid (Ly.start w #[.int .u64 (x.l : Int), .bool true, .int .u64 (x.sig.index : Int), .slice wa x.sig.wots.length wc, .slice pa x.sig.path.length pc] 53)
  have b0 : (smallP (mapP (sigF x.sig))).length ≤ 200100000 := by have := small_b _ _ (sigM_b x.sig hI); omega
  have b1 : (numZ x.l).length ≤ 10000 := by have := numZ_b x.l; omega
  have b2 : (numZ 1).length ≤ 10000 := by have := numZ_b 1; omega
  have HF0 := Lib.hid (fun (wz : World) (hz : Below w.heap.size w wz) => laySig_any x.sig wa pa wc pc wz ⟨hM.ws.below (Nat.le_refl _) hz, hM.ps.below (Nat.le_refl _) hz⟩ hI)
  have HG0 := Lib.hid (fun (wz : World) => wsmall_any (mapP (sigF x.sig)) wz)
  have HF1 := Lib.hid (fun (wz : World) (hz : Below w.heap.size w wz) => wnum_any x.l wz hl)
  have HF2 := Lib.hid (fun (wz : World) (hz : Below w.heap.size w wz) => wnum_any 1 wz (by decide))
  have HP0 := Lib.hid (fun (b : Nat) (wz : World) (h : Ly w w.heap.size #[.int .u64 (x.l : Int), .bool true, .int .u64 (x.sig.index : Int), .slice wa x.sig.wots.length wc, .slice pa x.sig.path.length pc] 53 b [] wz) => h.puts 103 (smallP (mapP (sigF x.sig))) (by simp) (by simp) (by omega))
  have HP1 := Lib.hid (fun (b : Nat) (wz : World) (h : Ly w w.heap.size #[.int .u64 (x.l : Int), .bool true, .int .u64 (x.sig.index : Int), .slice wa x.sig.wots.length wc, .slice pa x.sig.path.length pc] 53 b [(103, smallP (mapP (sigF x.sig)))] wz) => h.puts 108 (numZ x.l) (by simp) (by simp only [List.map_cons, List.map_nil, List.sum_cons, List.sum_nil]; omega) (by omega))
  have HP2 := Lib.hid (fun (b : Nat) (wz : World) (h : Ly w w.heap.size #[.int .u64 (x.l : Int), .bool true, .int .u64 (x.sig.index : Int), .slice wa x.sig.wots.length wc, .slice pa x.sig.path.length pc] 53 b [(103, smallP (mapP (sigF x.sig))), (108, numZ x.l)] wz) => h.puts 115 (numZ 1) (by simp) (by simp only [List.map_cons, List.map_nil, List.sum_cons, List.sum_nil]; omega) (by omega))
  have HW := Lib.hid (fun (b : Nat) (wz : World) (h : Ly w w.heap.size #[.int .u64 (x.l : Int), .bool true, .int .u64 (x.sig.index : Int), .slice wa x.sig.wots.length wc, .slice pa x.sig.path.length pc] 53 b [(103, smallP (mapP (sigF x.sig))), (108, numZ x.l), (115, numZ 1)] wz) => whole_any b [(103, smallP (mapP (sigF x.sig))), (108, numZ x.l), (115, numZ 1)] wz h.l (by simp) (Nat.le_trans (prsB_len _) (by simp only [List.map_cons, List.map_nil, List.sum_cons, List.sum_nil]; omega)))
  simp only [List.cons_append, List.nil_append] at HP0 HP1 HP2
  clear b0 b1 b2
  generalize mapP [(103, smallP (mapP (sigF x.sig))), (108, numZ x.l), (115, numZ 1)] = MM at *
  generalize smallP (mapP (sigF x.sig)) = V0 at *
  generalize mapP (sigF x.sig) = U0 at *
  generalize numZ x.l = V1 at *
  generalize numZ 1 = V2 at *
  go_enter Tryz.func57, Tryz.ntmps57
  go_upto_region 2 with fail
  change Code.wp _ _ _ _ ((w.alloc (.cells #[.int .u64 (x.l : Int), .bool true, .int .u64 (x.sig.index : Int), .slice wa x.sig.wots.length wc, .slice pa x.sig.path.length pc] 53)).alloc (.cells #[.int .u64 0, .string ⟨#[]⟩] 68))
  generalize (w.alloc (.cells #[.int .u64 (x.l : Int), .bool true, .int .u64 (x.sig.index : Int), .slice wa x.sig.wots.length wc, .slice pa x.sig.path.length pc] 53)).alloc (.cells #[.int .u64 0, .string ⟨#[]⟩] 68) = w1 at *
  have z2 := (lit_cell K.out.x 2).trans rfl
  have z3 := (lit_cell K.out.x 3).trans rfl
  have z4 := (lit_cell K.out.x 4).trans rfl
  go_wp2_with fail
  refine (HF0.out _ K.out.o).mono ?_
  rintro e wa0 ⟨rfl, hb⟩
  have K := Lib.hid (K.out.next hb)
  clear hb HF0 z2 z3 z4
  go_wp2_with fail
  refine (HG0.out _).mono ?_
  rintro e wb0 ⟨rfl, rfl⟩
  clear HG0
  go_wp2_with fail
  refine (HP0.out _ _ K.out).mono ?_
  rintro e wc0 ⟨rfl, hk⟩
  have K := Lib.hid hk
  clear hk HP0
  have z0 := (lit_cell K.out.x 0).trans rfl
  go_wp2_with fail
  refine (HF1.out _ K.out.o).mono ?_
  rintro e wa1 ⟨rfl, hb⟩
  have K := Lib.hid (K.out.next hb)
  clear hb HF1 z0
  go_wp2_with fail
  refine (HP1.out _ _ K.out).mono ?_
  rintro e wc1 ⟨rfl, hk⟩
  have K := Lib.hid hk
  clear hk HP1
  have z1 := (lit_cell K.out.x 1).trans rfl
  go_wp2_with fail
  refine (HF2.out _ K.out.o).mono ?_
  rintro e wa2 ⟨rfl, hb⟩
  have K := Lib.hid (K.out.next hb)
  clear hb HF2 
  go_wp2_with fail
  refine (HP2.out _ _ K.out).mono ?_
  rintro e wc2 ⟨rfl, hk⟩
  have K := Lib.hid hk
  clear hk HP2
  go_wp2_with fail
  refine (HW.out _ _ K.out).mono ?_
  rintro e wd ⟨rfl, hb⟩
  go_wp2
  go_ret
  exact ⟨rfl, (K.out.next hb).o⟩
set_option maxRecDepth 100000 in
set_option maxHeartbeats 1000000 in
theorem laySlot_false (x : SlotR) (wa pa : Option Addr) (wc pc : Nat) (w : World) (hM : SlotM ⟨x, wa, wc, pa, pc⟩ w) (hl : x.l < 18446744073709551616) (hI : RSig x.sig) :
    Calls Tryz.prog 57 #[.agg #[.int .u64 (x.l : Int), .bool false, .int .u64 (x.sig.index : Int), .slice wa x.sig.wots.length wc, .slice pa x.sig.path.length pc]] w fun e w' => e = .returned (.string ⟨(mapP ([(103, smallP (mapP (sigF x.sig))), (108, numZ x.l)])).toArray⟩) ∧ Below w.heap.size w w' := by
  show Calls Tryz.prog 57 _ w fun e w' => e = .returned (.string ⟨(mapP [(103, smallP (mapP (sigF x.sig))), (108, numZ x.l)]).toArray⟩) ∧ Below w.heap.size w w'
  have K := Lib.hid (Ly.start w #[.int .u64 (x.l : Int), .bool false, .int .u64 (x.sig.index : Int), .slice wa x.sig.wots.length wc, .slice pa x.sig.path.length pc] 53)
  have b0 : (smallP (mapP (sigF x.sig))).length ≤ 200100000 := by have := small_b _ _ (sigM_b x.sig hI); omega
  have b1 : (numZ x.l).length ≤ 10000 := by have := numZ_b x.l; omega
  have HF0 := Lib.hid (fun (wz : World) (hz : Below w.heap.size w wz) => laySig_any x.sig wa pa wc pc wz ⟨hM.ws.below (Nat.le_refl _) hz, hM.ps.below (Nat.le_refl _) hz⟩ hI)
  have HG0 := Lib.hid (fun (wz : World) => wsmall_any (mapP (sigF x.sig)) wz)
  have HF1 := Lib.hid (fun (wz : World) (hz : Below w.heap.size w wz) => wnum_any x.l wz hl)
  have HP0 := Lib.hid (fun (b : Nat) (wz : World) (h : Ly w w.heap.size #[.int .u64 (x.l : Int), .bool false, .int .u64 (x.sig.index : Int), .slice wa x.sig.wots.length wc, .slice pa x.sig.path.length pc] 53 b [] wz) => h.puts 103 (smallP (mapP (sigF x.sig))) (by simp) (by simp) (by omega))
  have HP1 := Lib.hid (fun (b : Nat) (wz : World) (h : Ly w w.heap.size #[.int .u64 (x.l : Int), .bool false, .int .u64 (x.sig.index : Int), .slice wa x.sig.wots.length wc, .slice pa x.sig.path.length pc] 53 b [(103, smallP (mapP (sigF x.sig)))] wz) => h.puts 108 (numZ x.l) (by simp) (by simp only [List.map_cons, List.map_nil, List.sum_cons, List.sum_nil]; omega) (by omega))
  have HW := Lib.hid (fun (b : Nat) (wz : World) (h : Ly w w.heap.size #[.int .u64 (x.l : Int), .bool false, .int .u64 (x.sig.index : Int), .slice wa x.sig.wots.length wc, .slice pa x.sig.path.length pc] 53 b [(103, smallP (mapP (sigF x.sig))), (108, numZ x.l)] wz) => whole_any b [(103, smallP (mapP (sigF x.sig))), (108, numZ x.l)] wz h.l (by simp) (Nat.le_trans (prsB_len _) (by simp only [List.map_cons, List.map_nil, List.sum_cons, List.sum_nil]; omega)))
  simp only [List.cons_append, List.nil_append] at HP0 HP1
  clear b0 b1
  generalize mapP [(103, smallP (mapP (sigF x.sig))), (108, numZ x.l)] = MM at *
  generalize smallP (mapP (sigF x.sig)) = V0 at *
  generalize mapP (sigF x.sig) = U0 at *
  generalize numZ x.l = V1 at *
  go_enter Tryz.func57, Tryz.ntmps57
  go_upto_region 2 with fail
  change Code.wp _ _ _ _ ((w.alloc (.cells #[.int .u64 (x.l : Int), .bool false, .int .u64 (x.sig.index : Int), .slice wa x.sig.wots.length wc, .slice pa x.sig.path.length pc] 53)).alloc (.cells #[.int .u64 0, .string ⟨#[]⟩] 68))
  generalize (w.alloc (.cells #[.int .u64 (x.l : Int), .bool false, .int .u64 (x.sig.index : Int), .slice wa x.sig.wots.length wc, .slice pa x.sig.path.length pc] 53)).alloc (.cells #[.int .u64 0, .string ⟨#[]⟩] 68) = w1 at *
  have z2 := (lit_cell K.out.x 2).trans rfl
  have z3 := (lit_cell K.out.x 3).trans rfl
  have z4 := (lit_cell K.out.x 4).trans rfl
  go_wp2_with fail
  refine (HF0.out _ K.out.o).mono ?_
  rintro e wa0 ⟨rfl, hb⟩
  have K := Lib.hid (K.out.next hb)
  clear hb HF0 z2 z3 z4
  go_wp2_with fail
  refine (HG0.out _).mono ?_
  rintro e wb0 ⟨rfl, rfl⟩
  clear HG0
  go_wp2_with fail
  refine (HP0.out _ _ K.out).mono ?_
  rintro e wc0 ⟨rfl, hk⟩
  have K := Lib.hid hk
  clear hk HP0
  have z0 := (lit_cell K.out.x 0).trans rfl
  go_wp2_with fail
  refine (HF1.out _ K.out.o).mono ?_
  rintro e wa1 ⟨rfl, hb⟩
  have K := Lib.hid (K.out.next hb)
  clear hb HF1 z0
  go_wp2_with fail
  refine (HP1.out _ _ K.out).mono ?_
  rintro e wc1 ⟨rfl, hk⟩
  have K := Lib.hid hk
  clear hk HP1
  have z1 := (lit_cell K.out.x 1).trans rfl
  go_wp2_with fail
  refine (HW.out _ _ K.out).mono ?_
  rintro e wd ⟨rfl, hb⟩
  go_wp2
  go_ret
  exact ⟨rfl, (K.out.next hb).o⟩
theorem laySlot_any (x : SlotR) (wa pa : Option Addr) (wc pc : Nat) (w : World) (hM : SlotM ⟨x, wa, wc, pa, pc⟩ w) (hl : x.l < 18446744073709551616) (hI : RSig x.sig) : Calls Tryz.prog 57 #[slotV ⟨x, wa, wc, pa, pc⟩] w fun e w' => e = .returned (.string ⟨(mapP (slotF x)).toArray⟩) ∧ Below w.heap.size w w' := by
  obtain ⟨l, sg, g⟩ := x
  cases sg with
  | true => exact laySlot_true ⟨l, true, g⟩ wa pa wc pc w hM hl hI
  | false =>
    have k := laySlot_false ⟨l, false, g⟩ wa pa wc pc w hM hl hI
    rw [← mapP_snoc_nil _ 115] at k
    exact k
end Go.Proofs.YtlhmmplkdjibkaaGreatDoor
