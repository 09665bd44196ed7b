/- The law's texts and slot: short lists, cut into new memory. -/
import Derived.Test.YtlhmmplkdjibkaaGreatDoorJ16
import Derived.Test.YtlhmmplkdjibkaaGreatDoorJ14
import Derived.Deep.RegionHeld3
import Derived.Deep.AppendLies
import Derived.Deep.RegionLaw
import Derived.Deep.Cut
import Derived.Test.YtlhmmplkdjibkaaGreatDoorJ5
import Derived.Test.YtlhmmplkdjibkaaGreatDoorJ15
import Derived.ProofKit
import Derived.OpenShut
import Derived.Deep.DeepHandedRow
namespace Go.Proofs.YtlhmmplkdjibkaaGreatDoor
open Go.RowKit

theorem Tryz.info9 : (Tryz.prog.info? 9).map (fun i => (i.zero, i.size, i.bytes)) = some (some (.string ⟨#[]⟩), 1, 16) := by kernel_rfl
def txtCells (L : List (List UInt8)) : List Value := L.map fun x => .string ⟨x.toArray⟩
def textsTo (L : List (List UInt8)) (k : Nat) : List (List UInt8) := (L.take k).map (·.take 40)
theorem text_cut (X : (List UInt8)) : (∃ m : Nat, min (X.length : Int) 40 = (m : Int) ∧ m ≤ X.length ∧ (⟨X.toArray⟩ : ByteArray).extract 0 m = ⟨(X.take 40).toArray⟩) := by
  refine ⟨min X.length 40, by omega, by omega, ?_⟩
  rw [extract_list, List.drop_zero]
  congr 2
  by_cases h : X.length ≤ 40
  · rw [Nat.min_eq_left h, List.take_of_length_le (Nat.le_refl _), List.take_of_length_le h]
  · rw [Nat.min_eq_right (by omega)]
theorem texts_snoc (L : List (List UInt8)) (k : Nat) (X : (List UInt8)) (h : k < L.length) (hX : L[k] = X) : txtCells (textsTo L k) ++ [.string ⟨(X.take 40).toArray⟩] = txtCells (textsTo L (k + 1)) := by
  subst hX
  rw [textsTo, textsTo, List.take_succ_eq_append_getElem h, List.map_append, txtCells, txtCells, List.map_append]
  rfl
theorem txt_of_owns {w : World} {B n : Nat} {v : Value} {TS : List (List UInt8)} (h : w.ownsRow B 9 1 v n (txtCells TS)) (hn : TS.length = n) : ∃ ao cp, v = .slice ao n cp ∧ Fresh B ao TS w := by
  obtain ⟨h1, h2⟩ := h
  rcases h2 with ⟨rfl, rfl⟩ | ⟨g, cap, cur, rfl, hg, hh, _, _, _, hc⟩
  · exact ⟨none, 0, rfl, .inl (List.eq_nil_of_length_eq_zero hn)⟩
  · refine ⟨_, cap, rfl, .inr ⟨g, rfl, hg, (Array.getElem?_eq_some_iff.1 hh).1, fun i hi => ?_⟩⟩
    have e : (cur.toList.take (n * 1))[i]? = (txtCells TS)[i]? := by rw [hc]
    rw [List.getElem?_take, if_pos (by omega), Array.getElem?_toList] at e
    rw [cell_of_row w g i cur 9 _ hh, e]
    simp [txtCells, hi]

theorem news_new (w : World) (l : List Value) (t : TypeId) : ∀ j u, l[j]? = some u → (w.alloc (.cells l.toArray t)).cell? ((⟨w.heap.size, 0, none⟩ : Addr).add j) = some u := by
  intro j u h
  rw [Addr.add_mid, Nat.zero_add, World.cell?_alloc_at (hn := rfl)]
  simpa using h
theorem Fresh.strs {lo : Nat} {ao : Option Addr} {L : List (List UInt8)} {w : World} (h : Fresh lo ao L w) : Strs ao L w := by
  rcases h with h | ⟨b, h1, h2, h3, h4⟩
  · exact .inl h
  · exact .inr ⟨b, 0, h1, h3, fun i hi => by rw [Nat.zero_add]; exact h4 i hi⟩
theorem Fresh.to {lo : Nat} {ao : Option Addr} {L : List (List UInt8)} {w w' : World} (h : Fresh lo ao L w) (hk : ∀ k, lo ≤ k → k < w.heap.size → w'.heap[k]? = w.heap[k]?) (hs : w.heap.size ≤ w'.heap.size) : Fresh lo ao L w' := by
  rcases h with h | ⟨b, h1, h2, h3, h4⟩
  · exact .inl h
  · exact .inr ⟨b, h1, h2, by omega, fun i hi => (World.cell?_of_block (a := ⟨b, i, none⟩) (hk b h2 h3)).trans (h4 i hi)⟩

set_option maxHeartbeats 400000 in
theorem texts_none (ao : Option Addr) (cap N : Nat) (w : World) :
    Calls Tryz.prog 13 #[.slice ao 0 cap, .int .i64 (N : Int)] w fun e w' => e = .returned (.slice none 0 0) ∧ w = w' := by
  go_enter Tryz.func13, Tryz.ntmps13
  go_wp2
  refine wp_loop_rounds 1 ?_
  rw [rounds_succ]
  go_wp2
  go_ret
  exact ⟨rfl, rfl⟩

set_option maxRecDepth 100000 in
set_option maxHeartbeats 1000000 in
theorem texts_some (b off cap N : Nat) (L : List (List UInt8)) (w : World) (hN : N ≤ 1000) (hL : L.length ≤ maxLen) (hl : ∀ i (h : i < L.length), L[i].length ≤ maxLen) (hb : b < w.heap.size)
    (hc : ∀ i (h : i < L.length), w.cell? ⟨b, off + i, none⟩ = some (.string ⟨L[i].toArray⟩)) :
    Calls Tryz.prog 13 #[.slice (some ⟨b, off, none⟩) L.length cap, .int .i64 (N : Int)] w fun e w' => ∃ v, e = .returned v ∧ w'.ownsRow w.heap.size 9 1 v (textsTo L N).length (txtCells (textsTo L N)) ∧ Below w.heap.size w w' := by
  obtain ⟨i0, hi, hz0, hz1, hz2⟩ := info_parts Tryz.info9
  unfold maxLen at hL
  have HC := Lib.hid hc
  have HL := Lib.hid hl
  clear hc hl
  go_enter Tryz.func13, Tryz.ntmps13
  go_wp2
  go_loopw [5, 6] (fun v i wr => ∃ k : Nat, k ≤ L.length ∧ k ≤ N ∧ i = .int .i64 (k : Int) ∧ wr.ownsRow w.heap.size 9 1 v k (txtCells (textsTo L k)) ∧ Below w.heap.size w wr)
    (fun _ i _ => L.length - (intOf i).toNat)
  case atStart => exact ⟨0, by omega, by omega, rfl, World.ownsRow_nil _ _ _ _, Below.refl _ _⟩
  case round =>
    obtain ⟨k, hk, hk20, rfl, hown, hbe⟩ := hrel
    have hz := hbe.size
    by_cases hlt : k < L.length ∧ k < N
    · obtain ⟨hlt1, hlt2⟩ := hlt
      have hlk := HL.out k hlt1
      unfold maxLen at hlk
      have hcell := (hbe.cell (p := ⟨b, off + k, none⟩) hb).trans (HC.out k hlt1)
      obtain ⟨X, hX⟩ : ∃ X, L[k] = X := ⟨_, rfl⟩
      have HO := Lib.hid (texts_snoc L k X hlt1 hX)
      rw [hX] at hlk hcell
      have HX := Lib.hid hX
      clear hX
      have k0 : (0 : Int) ≤ (k : Int) := by omega
      have k1 : (k : Int) < (L.length : Int) := by omega
      have k2 : (k : Int) < (N : Int) := by omega
      obtain ⟨m, hm1, hm2, hm3⟩ := text_cut X
      have m0 : (0 : Int) ≤ (m : Int) := by omega
      have m1 : (m : Int) ≤ (X.length : Int) := by omega
      have Hm3 := Lib.hid hm3
      clear hm3
      go_wp2
      have q1 : k + 1 ≤ maxLen := by unfold maxLen; omega
      have q2 : (k + 1) * 16 ≤ 140737488355328 := by omega
      have q3 : w.heap.size ≤ ((wr.alloc (Obj.cells #[Value.string ((⟨X.toArray⟩ : ByteArray).extract 0 m)] 9)).drew).heap.size := by simp; omega
      have q4 : ((wr.alloc (Obj.cells #[Value.string ((⟨X.toArray⟩ : ByteArray).extract 0 m)] 9)).drew).heap.size = wr.heap.size + 1 := by simp
      have Q1 := Lib.hid q1
      have Q2 := Lib.hid q2
      have Q3 := Lib.hid q3
      have Q4 := Lib.hid q4
      clear q1 q2 q3 q4
      go_region_law (refine step_append_lies _ (by rfl) (.tmp 18) (.tmp 30) 25 (by rfl) w.heap.size 9 i0 _ 1 16 Tryz.underlying25 hi hz0 hz1 hz2 rfl (by omega) u5 k _ (by rfl) ((hown.alloc _).drew) ⟨wr.heap.size, 0, none⟩ 1 1 [.string ((⟨X.toArray⟩ : ByteArray).extract 0 m)] (by rfl) (by rfl) (news_new wr _ _) (by simp [Value.oneCell']) (by omega) Q1.out Q2.out Q3.out (wr.heap.size + 1) Q4.out ?_; intro gg cp w1 hown1 hgrow hat hgl)
      all_goals
        rw [Hm3.out, HO.out] at hown1
        have hbe1 : Below w.heap.size w w1 := ((hbe.alloc hz _).drew).grown hgrow (by simp; omega) (fun k' e => (hown.lt k' e).1)
        clear hown hgrow hat
        go_wp2
        go_roundw
        case rel => exact ⟨k + 1, by omega, by omega, by go_num, hown1, hbe1⟩
        case measure => simp [intOf]; omega
    · have hfin : textsTo L N = textsTo L k := by
        by_cases h : k < N
        · have : k = L.length := by omega
          subst this
          rw [textsTo, textsTo, List.take_of_length_le (by omega), List.take_of_length_le (Nat.le_refl _)]
        · have : k = N := by omega
          rw [this]
      have hln : (textsTo L k).length = k := by rw [textsTo, List.length_map, List.length_take]; omega
      have HF := Lib.hid hfin
      have HN := Lib.hid hln
      clear hfin hln
      by_cases hlt1 : k < L.length
      · have hlt2 : ¬ (k : Int) < (N : Int) := by omega
        have k1 : (k : Int) < (L.length : Int) := by omega
        clear hlt
        go_wp2
        go_ret
        exact ⟨u5, rfl, by rw [HF.out, HN.out]; exact hown, hbe⟩
      · have k1 : ¬ (k : Int) < (L.length : Int) := by omega
        clear hlt
        go_wp2
        go_ret
        exact ⟨u5, rfl, by rw [HF.out, HN.out]; exact hown, hbe⟩
theorem texts_any (ao : Option Addr) (cap N : Nat) (L : List (List UInt8)) (w : World) (hN : N ≤ 1000) (hL : L.length ≤ maxLen) (hl : ∀ i (h : i < L.length), L[i].length ≤ maxLen) (hs : Strs ao L w) :
    Calls Tryz.prog 13 #[.slice ao L.length cap, .int .i64 (N : Int)] w fun e w' => ∃ ao' cp, e = .returned (.slice ao' (textsTo L N).length cp) ∧ Fresh w.heap.size ao' (textsTo L N) w' ∧ Below w.heap.size w w' := by
  rcases hs with rfl | ⟨b, off, rfl, hb, hc⟩
  · exact (texts_none ao cap N w).mono fun e w' ⟨he, hw⟩ => ⟨none, 0, by rw [he]; simp [textsTo], .inl (by simp [textsTo]), hw ▸ Below.refl _ _⟩
  · refine (texts_some b off cap N L w hN hL hl hb hc).mono fun e w' ⟨v, he, ho, hB⟩ => ?_
    obtain ⟨ao', cp, rfl, hr⟩ := txt_of_owns ho rfl
    exact ⟨ao', cp, he, hr, hB⟩

/-- a slot whose lists are short -/
def slotTo (x : SlotR) : SlotR := ⟨x.l, x.signed, ⟨x.sig.index, textsTo x.sig.wots 70, textsTo x.sig.path 20⟩⟩
end Go.Proofs.YtlhmmplkdjibkaaGreatDoor
/- Reading, as the law asks: what was laid, and any bytes. -/
namespace Go.Proofs.YtlhmmplkdjibkaaGreatDoor
open Go.RowKit

end Go.Proofs.YtlhmmplkdjibkaaGreatDoor
/- The law's works: the chapter's examples. -/
namespace Go.Proofs.YtlhmmplkdjibkaaGreatDoor
open Go.RowKit

theorem rslot_err {S : (List UInt8)} {b : Nat} (h : wholeG slotC.get S = .error (5, b)) (w : World) (hG : GlobW w) (hS : S.length ≤ 1000000) (hgl : 4 ≤ w.heap.size) :
    Calls Tryz.prog 40 #[.string ⟨S.toArray⟩] w fun e w' => (∃ v, e = .returned (.tuple #[.agg #[.int .u64 0, .bool false, .int .u64 0, .slice none 0 0, .slice none 0 0], v]) ∧ ErrV w.heap.size 5 b v w') ∧ Below w.heap.size w w' := by
  refine (wreadSlot_any S w hG hS hgl).mono fun e w' hA => ?_
  rw [AnsSlot, h] at hA
  exact hA.2
theorem rpart_err {S : (List UInt8)} {c b : Nat} (h : wholeG partC.get S = .error (c, b)) (w : World) (hG : GlobW w) (hS : S.length ≤ 1000000) (hgl : 4 ≤ w.heap.size) :
    Calls Tryz.prog 41 #[.string ⟨S.toArray⟩] w fun e w' => (∃ v, e = .returned (.tuple #[.agg #[.string ⟨#[]⟩, .int .u64 0, .int .u64 0, .int .u64 0, .int .u64 0], v]) ∧ ErrV w.heap.size c b v w') ∧ Below w.heap.size w w' := by
  refine (wreadPart_any S w hG hS hgl).mono fun e w' hA => ?_
  rw [AnsPart, h] at hA
  exact hA.2

theorem rL_len : rL.length = 32 := by decide
def cPart : (List UInt8) := [132, 161, 107, 3, 161, 108, 2, 161, 114, 196, 32] ++ rL ++ [161, 119, 205, 1, 44]
/-- what the walk keeps -/
structure Wk (w0 : World) (wz : World) : Prop where
  g : GlobW wz
  gl : 4 ≤ wz.heap.size
  o : Below w0.heap.size w0 wz
theorem Wk.next {w0 wz wa : World} (h : Wk w0 wz) (hb : Below wz.heap.size wz wa) : Wk w0 wa := ⟨h.g.next hb, Nat.le_trans h.gl hb.size, h.o.trans (hb.mono h.o.size)⟩
set_option maxRecDepth 100000 in
set_option maxHeartbeats 2000000 in
theorem worksw_any (w : World) (hG : GlobW w) (hgl : 4 ≤ w.heap.size) :
    Calls Tryz.prog 12 #[] w fun e w' => e = .returned (.bool true) ∧ Below w.heap.size w w' := by
  have HF := Lib.hid (full_any 114 w)
  have K0 := Lib.hid (show Wk w w from ⟨hG, hgl, Below.refl _ _⟩)
  have HP := Lib.hid (show ∀ wz, Wk w wz → Calls Tryz.prog 37 #[.agg #[.string ⟨rL.toArray⟩, .int .u64 300, .int .u64 0, .int .u64 2, .int .u64 3]] wz (fun e w' => e = .returned (.tuple #[.string ⟨cPart.toArray⟩, .int .i64 0]) ∧ Below wz.heap.size wz w') from fun wz h => by
    have k := wpart_any vPart wz h.g ⟨by decide, by decide, by decide, by decide⟩
    rw [ex_part] at k
    exact k)
  have HP2 := Lib.hid (show ∀ wz, Wk w wz → Calls Tryz.prog 37 #[.agg #[.string ⟨rL.tail.toArray⟩, .int .u64 0, .int .u64 0, .int .u64 0, .int .u64 0]] wz (fun e w' => e = .returned (.tuple #[.string ⟨#[]⟩, .int .i64 2]) ∧ Below wz.heap.size wz w') from fun wz h => by
    have k := wpart_any ⟨rL.drop 1, 0, 0, 0, 0⟩ wz h.g ⟨by decide, by decide, by decide, by decide⟩
    rw [ex_part2] at k
    exact k)
  have HS0 := Lib.hid (show ∀ wz, Wk w wz → Calls Tryz.prog 38 #[.agg #[.int .u64 0, .bool false, .int .u64 0, .slice none 0 0, .slice none 0 0]] wz (fun e w' => e = .returned (.tuple #[.string ⟨#[128]⟩, .int .i64 0]) ∧ Below wz.heap.size wz w') from fun wz h => by
    have k := wslot_any ⟨zSlot, none, 0, none, 0⟩ wz h.g ⟨by decide, ⟨by decide, by decide, by decide⟩⟩ ⟨.inl rfl, .inl rfl⟩
    rw [ex_slot0] at k
    exact k)
  have HS1 := Lib.hid (show ∀ wz, Wk w wz → Calls Tryz.prog 38 #[.agg #[.int .u64 5, .bool true, .int .u64 0, .slice none 0 0, .slice none 0 0]] wz (fun e w' => e = .returned (.tuple #[.string ⟨#[130, 161, 108, 5, 161, 115, 1]⟩, .int .i64 0]) ∧ Below wz.heap.size wz w') from fun wz h => by
    have k := wslot_any ⟨vSlot, none, 0, none, 0⟩ wz h.g ⟨by decide, ⟨by decide, by decide, by decide⟩⟩ ⟨.inl rfl, .inl rfl⟩
    rw [ex_slot1] at k
    exact k)
  have HM := Lib.hid (show ∀ wz, Wk w wz → Calls Tryz.prog 39 #[.agg #[.string ⟨#[]⟩, .string ⟨#[]⟩, .int .u64 0, .int .u64 0, .int .u64 0, .int .u64 0]] wz (fun e w' => e = .returned (.tuple #[.string ⟨#[]⟩, .int .i64 2]) ∧ Below wz.heap.size wz w') from fun wz h => by
    have k := wmsg_any zMsg wz h.g ⟨by decide, by decide, by decide, by decide⟩
    rw [ex_msg] at k
    exact k)
  have HR0 := Lib.hid (show ∀ wz, Wk w wz → Calls Tryz.prog 40 #[.string ⟨#[128]⟩] wz (fun e w' => (∃ (wa : Option Addr) (wc : Nat) (pa : Option Addr) (pc : Nat), e = .returned (.tuple #[.agg #[.int .u64 0, .bool false, .int .u64 0, .slice wa 0 wc, .slice pa 0 pc], .nilIface])) ∧ Below wz.heap.size wz w') from fun wz h => by
    refine (wreadSlot_any [128] wz h.g (by decide) h.gl).mono fun e w' hA => ?_
    rw [AnsSlot, ex_r0] at hA
    obtain ⟨⟨⟨y, a, b, c, d⟩, hy, he, _, _⟩, hb⟩ := hA
    obtain rfl : y = zSlot := hy
    exact ⟨⟨a, b, c, d, he⟩, hb⟩)
  have HL := Lib.hid rL_len
  have hcat : ∀ wz : World, True := fun _ => trivial
  have hR : (List.replicate 32 (114 : UInt8)) = rL := rfl
  rw [hR] at HF
  have hex : (⟨rL.toArray⟩ : ByteArray).extract 1 32 = ⟨rL.tail.toArray⟩ := by decide +kernel
  clear hG hgl hcat
  generalize hA : rL = A at *
  have HA := Lib.hid hA
  clear hA hR
  go_enter Tryz.func12, Tryz.ntmps12
  go_wp2_with fail
  refine HF.out.mono ?_
  rintro e w1 ⟨rfl, b1⟩
  have K := Lib.hid (K0.out.next b1)
  clear b1 K0 HF
  go_wp2_with fail
  refine (HP.out _ K.out).mono ?_
  rintro e w2 ⟨rfl, b2⟩
  have K := Lib.hid (K.out.next b2)
  clear b2 HP
  go_wp2_with fail
  refine (HS0.out _ K.out).mono ?_
  rintro e w3 ⟨rfl, b3⟩
  have K := Lib.hid (K.out.next b3)
  clear b3 HS0
  go_wp2_with fail
  refine (HS1.out _ K.out).mono ?_
  rintro e w4 ⟨rfl, b4⟩
  have K := Lib.hid (K.out.next b4)
  clear b4 HS1
  have hl := HL.out
  have hex2 : (⟨A.toArray⟩ : ByteArray).extract 1 A.length = ⟨A.tail.toArray⟩ := by rw [hl]; exact hex
  go_wp2_with fail
  first | rw [hex] | rw [hex2] | skip
  refine (HP2.out _ K.out).mono ?_
  rintro e w5 ⟨rfl, b5⟩
  have K := Lib.hid (K.out.next b5)
  clear b5 HP2 hex hex2
  go_wp2_with fail
  refine (HM.out _ K.out).mono ?_
  rintro e w6 ⟨rfl, b6⟩
  have K := Lib.hid (K.out.next b6)
  clear b6 HM
  have hcP : cPart = ([132, 161, 107, 3, 161, 108, 2, 161, 114, 196, 32] ++ A) ++ [161, 119, 205, 1, 44] := by rw [← HA.out]; rfl
  have hc1 := run_cat [132, 161, 107, 3, 161, 108, 2, 161, 114, 196, 32] A (by rw [hl]; decide)
  have hc2 := run_cat ([132, 161, 107, 3, 161, 108, 2, 161, 114, 196, 32] ++ A) [161, 119, 205, 1, 44] (by rw [List.length_append, hl]; decide)
  rw [← hcP] at hc2
  generalize [132, 161, 107, 3, 161, 108, 2, 161, 114, 196, 32] ++ A = D at *
  clear hcP
  generalize cPart = E at *
  go_upto_region 9 with fail
  go_upto_region 10 with (go_at_call 40; refine (HR0.out _ K.out).mono ?_; rintro e w7 ⟨⟨wa, wc, pa, pc, rfl⟩, b7⟩)
  change Code.wp _ _ _ _ (w7.alloc (.cells #[.int .u64 0, .bool false, .int .u64 0, .slice wa 0 wc, .slice pa 0 pc] 53))
  have hx := heap_alloc_new w7 (.cells #[.int .u64 0, .bool false, .int .u64 0, .slice wa 0 wc, .slice pa 0 pc] 53)
  have K := Lib.hid ((K.out.next b7).next (by0 w7 (.cells #[.int .u64 0, .bool false, .int .u64 0, .slice wa 0 wc, .slice pa 0 pc] 53)))
  generalize w7.alloc (.cells #[.int .u64 0, .bool false, .int .u64 0, .slice wa 0 wc, .slice pa 0 pc] 53) = w8 at *
  have z0 := (lit_cell hx 0).trans rfl; have z1 := (lit_cell hx 1).trans rfl; have z2 := (lit_cell hx 2).trans rfl; have z3 := (lit_cell hx 3).trans rfl; have z4 := (lit_cell hx 4).trans rfl
  clear hx b7 HR0
  generalize w7.heap.size = X7 at *
  go_upto_region 13 with fail
  change Code.wp _ _ _ _ (w8.alloc (.cells #[.string ⟨#[129, 161, 108, 0]⟩, .string ⟨#[130, 161, 115, 1, 161, 108, 5]⟩, .string ⟨#[129, 161, 115, 2]⟩] 9))
  have hl3 := heap_alloc_new w8 (.cells #[.string ⟨#[129, 161, 108, 0]⟩, .string ⟨#[130, 161, 115, 1, 161, 108, 5]⟩, .string ⟨#[129, 161, 115, 2]⟩] 9)
  have K := Lib.hid (K.out.next (by0 w8 (.cells #[.string ⟨#[129, 161, 108, 0]⟩, .string ⟨#[130, 161, 115, 1, 161, 108, 5]⟩, .string ⟨#[129, 161, 115, 2]⟩] 9)))
  generalize w8.alloc (.cells #[.string ⟨#[129, 161, 108, 0]⟩, .string ⟨#[130, 161, 115, 1, 161, 108, 5]⟩, .string ⟨#[129, 161, 115, 2]⟩] 9) = w9 at *
  generalize w8.heap.size = B at *
  have X := Lib.hid (And.intro K.out hl3)
  have HE := Lib.hid (show ∀ k : Nat, k < 3 → ∃ S : (List UInt8), (#[.string ⟨#[129, 161, 108, 0]⟩, .string ⟨#[130, 161, 115, 1, 161, 108, 5]⟩, .string ⟨#[129, 161, 115, 2]⟩] : Array Value)[k]? = some (.string ⟨S.toArray⟩) ∧ wholeG slotC.get S = .error (5, 0) ∧ S.length ≤ 10 from fun k hk => by
    obtain rfl | rfl | rfl : k = 0 ∨ k = 1 ∨ k = 2 := by omega
    · exact ⟨_, rfl, ex_b0, by decide⟩
    · exact ⟨_, rfl, ex_b1, by decide⟩
    · exact ⟨_, rfl, ex_b2, by decide⟩)
  clear hl3 K z0 z1 z2 z3 z4 hc1 hc2
  go_wp2
  go_loopw [15] (fun i wr => ∃ k : Nat, k ≤ 3 ∧ i = .int .i64 (k : Int) ∧ Hid (Wk w wr ∧ wr.heap[B]? = some (.cells #[.string ⟨#[129, 161, 108, 0]⟩, .string ⟨#[130, 161, 115, 1, 161, 108, 5]⟩, .string ⟨#[129, 161, 115, 2]⟩] 9 (0, 0))))
    (fun i _ => 3 - (intOf i).toNat)
  case atStart => exact ⟨0, by omega, rfl, X⟩
  case round =>
    obtain ⟨k, hk, rfl, X⟩ := hrel
    by_cases hlt : k < 3
    · obtain ⟨S, hS, hW, hSl⟩ := HE.out k hlt
      have hcell := (lit_cell X.out.2 k).trans hS
      have HR := Lib.hid (rslot_err hW wr X.out.1.g (by omega) X.out.1.gl)
      have k0 : (0 : Int) ≤ (k : Int) := by omega
      have k1 : (k : Int) < 3 := by omega
      clear hS hW hSl
      go_upto_region 17 with (go_at_call 40; refine HR.out.mono ?_; rintro e w10 ⟨⟨v, rfl, hv⟩, b10⟩)
      change Code.wp _ _ _ _ (w10.alloc (.cells #[.int .u64 0, .bool false, .int .u64 0, .slice none 0 0, .slice none 0 0] 53))
      have hb := by0 w10 (.cells #[.int .u64 0, .bool false, .int .u64 0, .slice none 0 0, .slice none 0 0] 53)
      have hv2 := hv.next hb
      have K2 := (X.out.1.next b10).next hb
      have hr2 := (hb.block B (Nat.lt_of_lt_of_le (lit_lt X.out.2) b10.size)).trans ((b10.block B (lit_lt X.out.2)).trans X.out.2)
      generalize w10.alloc (.cells #[.int .u64 0, .bool false, .int .u64 0, .slice none 0 0, .slice none 0 0] 53) = w11 at *
      have HT := Lib.hid (lawtold_any _ 5 0 0 v w11 K2.g.u.e hv2 (fun _ => rfl))
      have X2 := Lib.hid (And.intro K2 hr2)
      clear hb hv hv2 K2 hr2 b10 hcell HR X
      go_wp2_with fail
      refine HT.out.mono ?_
      rintro e w12 ⟨rfl, b12⟩
      have X3 := Lib.hid (And.intro (X2.out.1.next b12) ((b12.block B (lit_lt X2.out.2)).trans X2.out.2))
      clear b12 HT
      go_wp2
      go_roundw
      case rel => exact ⟨k + 1, by omega, by go_num, X3⟩
      case measure => simp [intOf]; omega
    · have k1 : ¬ (k : Int) < 3 := by omega
      have K := Lib.hid X.out.1
      clear X HE hk hlt
      have HL1 := Lib.hid (rslot_err ex_l wr K.out.g (by decide) K.out.gl)
      go_upto_region 20 with (go_at_call 40; refine HL1.out.mono ?_; rintro e w10 ⟨⟨v, rfl, hv⟩, b10⟩)
      change Code.wp _ _ _ _ (w10.alloc (.cells #[.int .u64 0, .bool false, .int .u64 0, .slice none 0 0, .slice none 0 0] 53))
      have hb := by0 w10 (.cells #[.int .u64 0, .bool false, .int .u64 0, .slice none 0 0, .slice none 0 0] 53)
      have V1 := Lib.hid (hv.next hb)
      have K := Lib.hid ((K.out.next b10).next hb)
      generalize w10.alloc (.cells #[.int .u64 0, .bool false, .int .u64 0, .slice none 0 0, .slice none 0 0] 53) = w11 at *
      generalize wr.heap.size = lo1 at *
      clear hb hv b10 HL1
      have HL2 := Lib.hid (rpart_err ex_m w11 K.out.g (by decide) K.out.gl)
      go_upto_region 21 with (go_at_call 41; refine HL2.out.mono ?_; rintro e wa2 ⟨⟨v2, rfl, hv⟩, b10⟩)
      change Code.wp _ _ _ _ (wa2.alloc (.cells #[.string ⟨#[]⟩, .int .u64 0, .int .u64 0, .int .u64 0, .int .u64 0] 55))
      have hb := by0 wa2 (.cells #[.string ⟨#[]⟩, .int .u64 0, .int .u64 0, .int .u64 0, .int .u64 0] 55)
      have V1 := Lib.hid ((V1.out.next b10).next hb)
      have V2 := Lib.hid (hv.next hb)
      have K := Lib.hid ((K.out.next b10).next hb)
      generalize wa2.alloc (.cells #[.string ⟨#[]⟩, .int .u64 0, .int .u64 0, .int .u64 0, .int .u64 0] 55) = wb2 at *
      clear hb hv b10 HL2
      have HL3 := Lib.hid (rpart_err ex_n wb2 K.out.g (by decide) K.out.gl)
      go_upto_region 22 with (go_at_call 41; refine HL3.out.mono ?_; rintro e wa3 ⟨⟨v3, rfl, hv⟩, b10⟩)
      change Code.wp _ _ _ _ (wa3.alloc (.cells #[.string ⟨#[]⟩, .int .u64 0, .int .u64 0, .int .u64 0, .int .u64 0] 55))
      have hb := by0 wa3 (.cells #[.string ⟨#[]⟩, .int .u64 0, .int .u64 0, .int .u64 0, .int .u64 0] 55)
      have V1 := Lib.hid ((V1.out.next b10).next hb)
      have V2 := Lib.hid ((V2.out.next b10).next hb)
      have V3 := Lib.hid (hv.next hb)
      have K := Lib.hid ((K.out.next b10).next hb)
      generalize wa3.alloc (.cells #[.string ⟨#[]⟩, .int .u64 0, .int .u64 0, .int .u64 0, .int .u64 0] 55) = wb3 at *
      clear hb hv b10 HL3
      have HL4 := Lib.hid (rpart_err ex_o wb3 K.out.g (by decide) K.out.gl)
      go_upto_region 23 with (go_at_call 41; refine HL4.out.mono ?_; rintro e wa4 ⟨⟨v4, rfl, hv⟩, b10⟩)
      change Code.wp _ _ _ _ (wa4.alloc (.cells #[.string ⟨#[]⟩, .int .u64 0, .int .u64 0, .int .u64 0, .int .u64 0] 55))
      have hb := by0 wa4 (.cells #[.string ⟨#[]⟩, .int .u64 0, .int .u64 0, .int .u64 0, .int .u64 0] 55)
      have V1 := Lib.hid ((V1.out.next b10).next hb)
      have V2 := Lib.hid ((V2.out.next b10).next hb)
      have V3 := Lib.hid ((V3.out.next b10).next hb)
      have V4 := Lib.hid (hv.next hb)
      have K := Lib.hid ((K.out.next b10).next hb)
      generalize wa4.alloc (.cells #[.string ⟨#[]⟩, .int .u64 0, .int .u64 0, .int .u64 0, .int .u64 0] 55) = wb4 at *
      clear hb hv b10 HL4
      have HT1 := Lib.hid (fun wz (hz : Below wb4.heap.size wb4 wz) => lawtold_any _ 5 1 1 v wz ((K.out.next hz).g.u.e) (V1.out.next hz) (fun _ => rfl))
      have HT2 := Lib.hid (fun wz (hz : Below wb4.heap.size wb4 wz) => lawtold_any _ 5 0 0 v2 wz ((K.out.next hz).g.u.e) (V2.out.next hz) (fun _ => rfl))
      have HT3 := Lib.hid (fun wz (hz : Below wb4.heap.size wb4 wz) => lawtold_any _ 4 0 0 v3 wz ((K.out.next hz).g.u.e) (V3.out.next hz) (fun _ => rfl))
      have HT4 := Lib.hid (fun wz (hz : Below wb4.heap.size wb4 wz) => lawtold_any _ 5 3 3 v4 wz ((K.out.next hz).g.u.e) (V4.out.next hz) (fun _ => rfl))
      go_wp2_with fail
      refine (HT1.out _ (Below.refl _ _)).mono ?_
      rintro e wc ⟨rfl, h1⟩
      go_wp2_with fail
      refine (HT2.out _ h1).mono ?_
      rintro e wd ⟨rfl, h2⟩
      have h3 := h1.trans (h2.mono h1.size)
      go_wp2_with fail
      refine (HT3.out _ h3).mono ?_
      rintro e we ⟨rfl, h4⟩
      have h5 := h3.trans (h4.mono h3.size)
      go_wp2_with fail
      refine (HT4.out _ h5).mono ?_
      rintro e wf ⟨rfl, h6⟩
      have h7 := h5.trans (h6.mono h5.size)
      go_wp2
      go_ret
      exact ⟨rfl, (K.out.next h7).o⟩
end Go.Proofs.YtlhmmplkdjibkaaGreatDoor
/- A list of texts that came in. -/
namespace Go.Proofs.YtlhmmplkdjibkaaGreatDoor
open Go.ChangeShapes Go.WideShapes Go.ChangeAt Go.RowKit

theorem cells9 : Tryz.prog.cellsOf 9 = 1 := by kernel_rfl
/-- what the reading of a list of texts gives -/
theorem strs_of {W : World} {a : Addr} {len : Nat} {ss : List ByteArray} (hcell : ∀ i, i < ss.length → W.cell? (a.add i) = some (.string (ss.getD i ByteArray.empty))) (hl : len ≤ ss.length) :
    Strs (some a) ((ss.take len).map fun s => s.data.toList) W := by
  by_cases h0 : len = 0
  · subst h0; exact .inl (by simp)
  · obtain ⟨b, off, sp⟩ := a
    have hc0 := hcell 0 (by omega)
    have hsp : sp = none := by
      cases sp with
      | none => rfl
      | some x =>
        exfalso
        have e : (⟨b, off, some x⟩ : Addr).add 0 = ⟨b, off, some x⟩ := rfl
        rw [e] at hc0
        unfold World.cell? at hc0
        split at hc0 <;> simp at hc0
    subst hsp
    refine .inr ⟨b, off, rfl, World.block_lt_of_cell? W _ (by rw [show (⟨b, off, none⟩ : Addr).add 0 = ⟨b, off, none⟩ from rfl] at hc0; exact hc0), fun i hi => ?_⟩
    have hi2 : i < len := by simpa [Nat.min_eq_left hl] using hi
    have := hcell i (by omega)
    rw [Addr.add_mid] at this
    rw [this, List.getElem_map, List.getElem_take, List.getD_eq_getElem?_getD, List.getElem?_eq_getElem (by omega)]
    rw [str_eta]
    rfl

end Go.Proofs.YtlhmmplkdjibkaaGreatDoor
