/- The reference's Texts: two lists of texts, two slots, that are alike. -/
import Derived.Test.YtlhmmplkdjibkaaGreatDoorJ16
import Derived.Test.YtlhmmplkdjibkaaGreatDoorJ14
import Derived.Test.YtlhmmplkdjibkaaGreatDoorJ17
import Derived.Deep.Cut
import Derived.Test.YtlhmmplkdjibkaaGreatDoorJ20
import Derived.Test.YtlhmmplkdjibkaaGreatDoorJ22
namespace Go.Proofs.YtlhmmplkdjibkaaGreatDoor
open Go.RowKit

set_option maxRecDepth 100000 in
set_option maxHeartbeats 1000000 in
theorem rtexts_any (ao bo : Option Addr) (ca cb : Nat) (L : List (List UInt8)) (w : World) (hL : L.length ≤ maxLen) (ha : Strs ao L w) (hb : Strs bo L w) :
    Calls Tryz.prog 32 #[.slice ao L.length ca, .slice bo L.length cb] w fun e w' => e = .returned (.bool true) ∧ Below w.heap.size w w' := by
  unfold maxLen at hL
  have HA := Lib.hid ha
  have HB := Lib.hid hb
  clear ha hb
  go_enter Tryz.func32, Tryz.ntmps32
  go_wp2
  go_loopw [5] (fun i wr => ∃ k : Nat, k ≤ L.length ∧ i = .int .i64 (k : Int) ∧ Below w.heap.size w wr)
    (fun i _ => L.length - (intOf i).toNat)
  case atStart => exact ⟨0, by omega, rfl, Below.refl _ _⟩
  case round =>
    obtain ⟨k, hk, rfl, hbe⟩ := hrel
    by_cases hlt : k < L.length
    · obtain ⟨b1, o1, rfl, hc1⟩ := (HA.out.below (Nat.le_refl _) hbe).cell k hlt
      obtain ⟨b2, o2, rfl, hc2⟩ := (HB.out.below (Nat.le_refl _) hbe).cell k hlt
      generalize L[k] = X at *
      have k0 : (0 : Int) ≤ (k : Int) := by omega
      have k1 : (k : Int) < (L.length : Int) := by omega
      go_wp2
      go_quiet (fail)
      have hbn := Below_drewN' hbe nq
      go_wp2
      go_roundw
      case rel => exact ⟨k + 1, by omega, by go_num, hbn⟩
      case measure => simp [intOf]; omega
    · have k1 : ¬ (k : Int) < (L.length : Int) := by omega
      go_wp2
      go_ret
      exact ⟨rfl, hbe⟩
end Go.Proofs.YtlhmmplkdjibkaaGreatDoor
/- The reference's SameSlot: two slots that are alike. -/
namespace Go.Proofs.YtlhmmplkdjibkaaGreatDoor
open Go.RowKit

set_option maxRecDepth 100000 in
set_option maxHeartbeats 1000000 in
theorem rsameslot_any (r : SlotR) (wa pa wb pb : Option Addr) (wc pc wd pd : Nat) (w : World) (hwl : r.sig.wots.length ≤ maxLen) (hpl : r.sig.path.length ≤ maxLen)
    (hx : SlotM ⟨r, wa, wc, pa, pc⟩ w) (hy : SlotM ⟨r, wb, wd, pb, pd⟩ w) :
    Calls Tryz.prog 33 #[slotV ⟨r, wa, wc, pa, pc⟩, slotV ⟨r, wb, wd, pb, pd⟩] w fun e w' => e = .returned (.bool true) ∧ Below w.heap.size w w' := by
  obtain ⟨l, sg, ⟨ix, ws, ps⟩⟩ := r
  simp only at hwl hpl
  have hb0 : Below w.heap.size w ((w.alloc (.cells #[.int .u64 (l : Int), .bool sg, .int .u64 (ix : Int), .slice wa ws.length wc, .slice pa ps.length pc] 53)).alloc (.cells #[.int .u64 (l : Int), .bool sg, .int .u64 (ix : Int), .slice wb ws.length wd, .slice pb ps.length pd] 53)) := (by0 w _).alloc (by simp) _
  have hz0 : ((w.alloc (.cells #[.int .u64 (l : Int), .bool sg, .int .u64 (ix : Int), .slice wa ws.length wc, .slice pa ps.length pc] 53)).alloc (.cells #[.int .u64 (l : Int), .bool sg, .int .u64 (ix : Int), .slice wb ws.length wd, .slice pb ps.length pd] 53)).heap.size = w.heap.size + 1 + 1 := by simp
  have hx0 : ((w.alloc (.cells #[.int .u64 (l : Int), .bool sg, .int .u64 (ix : Int), .slice wa ws.length wc, .slice pa ps.length pc] 53)).alloc (.cells #[.int .u64 (l : Int), .bool sg, .int .u64 (ix : Int), .slice wb ws.length wd, .slice pb ps.length pd] 53)).heap[w.heap.size]? = some (.cells #[.int .u64 (l : Int), .bool sg, .int .u64 (ix : Int), .slice wa ws.length wc, .slice pa ps.length pc] 53 (0, 0)) := lit_old _ (heap_alloc_new w _)
  have hr0 : ((w.alloc (.cells #[.int .u64 (l : Int), .bool sg, .int .u64 (ix : Int), .slice wa ws.length wc, .slice pa ps.length pc] 53)).alloc (.cells #[.int .u64 (l : Int), .bool sg, .int .u64 (ix : Int), .slice wb ws.length wd, .slice pb ps.length pd] 53)).heap[w.heap.size + 1]? = some (.cells #[.int .u64 (l : Int), .bool sg, .int .u64 (ix : Int), .slice wb ws.length wd, .slice pb ps.length pd] 53 (0, 0)) := by
    rw [show w.heap.size + 1 = (w.alloc (.cells #[.int .u64 (l : Int), .bool sg, .int .u64 (ix : Int), .slice wa ws.length wc, .slice pa ps.length pc] 53)).heap.size by simp]; exact heap_alloc_new _ _
  have HB := Lib.hid hb0
  have HX := Lib.hid hx0
  have HR := Lib.hid hr0
  have HZ := Lib.hid hz0
  have HT1 := Lib.hid (fun (wz : World) (hb : Below w.heap.size w wz) => rtexts_any wa wb wc wd ws wz hwl (hx.ws.below (Nat.le_refl _) hb) (hy.ws.below (Nat.le_refl _) hb))
  have HT2 := Lib.hid (fun (wz : World) (hb : Below w.heap.size w wz) => rtexts_any pa pb pc pd ps wz hpl (hx.ps.below (Nat.le_refl _) hb) (hy.ps.below (Nat.le_refl _) hb))
  clear hb0 hx0 hr0 hz0 hwl hpl hx hy
  go_enter Tryz.func33, Tryz.ntmps33
  go_upto_region 1 with fail
  change Code.wp _ _ _ _ ((w.alloc (.cells #[.int .u64 (l : Int), .bool sg, .int .u64 (ix : Int), .slice wa ws.length wc, .slice pa ps.length pc] 53)).alloc (.cells #[.int .u64 (l : Int), .bool sg, .int .u64 (ix : Int), .slice wb ws.length wd, .slice pb ps.length pd] 53))
  generalize (w.alloc (.cells #[.int .u64 (l : Int), .bool sg, .int .u64 (ix : Int), .slice wa ws.length wc, .slice pa ps.length pc] 53)).alloc (.cells #[.int .u64 (l : Int), .bool sg, .int .u64 (ix : Int), .slice wb ws.length wd, .slice pb ps.length pd] 53) = w1 at *
  have a0 := (lit_cell HX.out 0).trans rfl; have a1 := (lit_cell HX.out 1).trans rfl; have a2 := (lit_cell HX.out 2).trans rfl; have a3 := (lit_cell HX.out 3).trans rfl; have a4 := (lit_cell HX.out 4).trans rfl
  have b0 := (lit_cell HR.out 0).trans rfl; have b1 := (lit_cell HR.out 1).trans rfl; have b2 := (lit_cell HR.out 2).trans rfl; have b3 := (lit_cell HR.out 3).trans rfl; have b4 := (lit_cell HR.out 4).trans rfl
  have hz := HZ.out
  go_wp2_with (first
    | (go_at_call 32; with_reducible refine (HT1.out _ HB.out).mono ?_; rintro e w2 ⟨rfl, hb2⟩; have hX2 := (hb2.block w.heap.size (by omega)).trans HX.out; have hR2 := (hb2.block (w.heap.size + 1) (by omega)).trans HR.out; have c4 := (lit_cell hX2 4).trans rfl; have d4 := (lit_cell hR2 4).trans rfl; have hb02 := HB.out.trans (hb2.mono (by omega)))
    | (go_at_call 32; with_reducible refine (HT2.out _ hb02).mono ?_; rintro e w3 ⟨rfl, hb3⟩))
  go_ret
  exact ⟨rfl, hb02.trans (hb3.mono (by have := hb02.size; omega))⟩
end Go.Proofs.YtlhmmplkdjibkaaGreatDoor
/- The reference's cursor: a signature. -/
namespace Go.Proofs.YtlhmmplkdjibkaaGreatDoor
open Go.RowKit

theorem Fresh.weak {lo lo2 : Nat} {ao : Option Addr} {L : List (List UInt8)} {w : World} (h : Fresh lo ao L w) (hl : lo2 ≤ lo) : Fresh lo2 ao L w := by
  rcases h with h | ⟨b, h1, h2, h3, h4⟩
  · exact .inl h
  · exact .inr ⟨b, h1, by omega, h3, h4⟩
theorem Fresh.duo {lo cb rb : Nat} {ao : Option Addr} {L : List (List UInt8)} {w w' : World} (h : Fresh lo ao L w) (hd : Duo cb rb w w') (h1 : cb < lo) (h2 : rb < lo) : Fresh lo ao L w' := h.to (fun k hk hl => hd.block k hl (by omega) (by omega)) hd.size
theorem Fresh.only {lo X : Nat} {ao : Option Addr} {L : List (List UInt8)} {w w' : World} (h : Fresh lo ao L w) (hd : Only X w w') (h1 : X < lo) : Fresh lo ao L w' := h.to (fun k hk hl => hd.block k hl (by omega)) hd.size
/-- a signature's lists -/
structure SigL (lo : Nat) (S : (List UInt8)) (g : SigR) (wa pa : Option Addr) (w : World) : Prop where
  fw : Fresh lo wa g.wots w
  fp : Fresh lo pa g.path w
  i : g.index < 18446744073709551616
  wl : g.wots.length ≤ 67
  pl : g.path.length ≤ 16
  wt : ∀ x ∈ g.wots, x.length ≤ S.length
  pt : ∀ x ∈ g.path, x.length ≤ S.length
theorem SigL.weak {lo lo2 : Nat} {S : (List UInt8)} {g : SigR} {wa pa : Option Addr} {w : World} (h : SigL lo S g wa pa w) (hl : lo2 ≤ lo) : SigL lo2 S g wa pa w := ⟨h.fw.weak hl, h.fp.weak hl, h.i, h.wl, h.pl, h.wt, h.pt⟩
theorem SigL.duo {lo cb rb : Nat} {S : (List UInt8)} {g : SigR} {wa pa : Option Addr} {w w' : World} (h : SigL lo S g wa pa w) (hd : Duo cb rb w w') (h1 : cb < lo) (h2 : rb < lo) : SigL lo S g wa pa w' := ⟨h.fw.duo hd h1 h2, h.fp.duo hd h1 h2, h.i, h.wl, h.pl, h.wt, h.pt⟩
theorem SigL.only {lo X : Nat} {S : (List UInt8)} {g : SigR} {wa pa : Option Addr} {w w' : World} (h : SigL lo S g wa pa w) (hd : Only X w w') (h1 : X < lo) : SigL lo S g wa pa w' := ⟨h.fw.only hd h1, h.fp.only hd h1, h.i, h.wl, h.pl, h.wt, h.pt⟩
theorem SigL.zero (lo : Nat) (S : (List UInt8)) (w : World) : SigL lo S zSig none none w := ⟨.inl rfl, .inl rfl, by decide, Nat.zero_le _, Nat.zero_le _, (fun x hx => by cases hx), (fun x hx => by cases hx)⟩
theorem failS_false (c : Nat) (st : St) : failS false c st = st := by cases st <;> rfl
theorem sig_rise : Rising sigFs := by simp [Rising, sigFs, numFld, listFld]
/-- what is kept through a loop, besides Rd: the lists -/
structure Sg (w0 : World) (cb rb : Nat) (S : (List UInt8)) (st : St) (r0 : Array Value) (g : SigR) (wa pa : Option Addr) (wc pc : Nat) (wz : World) : Prop where
  r : Rd w0 cb rb S st 51 r0 #[.int .u64 (g.index : Int), .slice wa g.wots.length wc, .slice pa g.path.length pc] wz
  l : SigL (w0.heap.size + 2) S g wa pa wz
theorem Sg.call {w0 wz wa' : World} {cb rb : Nat} {S : (List UInt8)} {st st2 : St} {r0 : Array Value} {g : SigR} {wa pa : Option Addr} {wc pc : Nat} (h : Sg w0 cb rb S st r0 g wa pa wc pc wz) (ho : Duo cb rb wz wa') (hc : Curs cb rb S st2 wa') : Sg w0 cb rb S st2 r0 g wa pa wc pc wa' :=
  ⟨h.r.call ho hc, h.l.duo ho (by have := h.r.lt.1; omega) (by have := h.r.lt.2; omega)⟩
theorem Sg.index {w0 wz : World} {cb rb : Nat} {S : (List UInt8)} {st : St} {r0 : Array Value} {g : SigR} {wa pa : Option Addr} {wc pc : Nat} (h : Sg w0 cb rb S st r0 g wa pa wc pc wz) (n : Nat) (hn : n < 18446744073709551616) : Sg w0 cb rb S st r0 { g with index := n } wa pa wc pc (wz.setCell ⟨w0.heap.size + 1, 0, none⟩ (.int .u64 (n : Int))) := by
  have k := h.l.only (Only.set (w0.heap.size + 1) 0 (.int .u64 (n : Int)) wz) (by omega)
  exact ⟨h.r.set 0 _, ⟨k.fw, k.fp, hn, k.wl, k.pl, k.wt, k.pt⟩⟩
theorem Sg.path {w0 wz : World} {cb rb : Nat} {S : (List UInt8)} {st : St} {r0 : Array Value} {g : SigR} {wa pa : Option Addr} {wc pc : Nat} (h : Sg w0 cb rb S st r0 g wa pa wc pc wz) (ao : Option Addr) (cp : Nat) (L : List (List UInt8)) (hL : L.length ≤ 16 ∧ (∀ x ∈ L, x.length ≤ S.length) ∧ Fresh (w0.heap.size + 2) ao L wz) : Sg w0 cb rb S st r0 { g with path := L } wa ao wc cp (wz.setCell ⟨w0.heap.size + 1, 2, none⟩ (.slice ao L.length cp)) := by
  have ho := Only.set (w0.heap.size + 1) 2 (.slice ao L.length cp) wz
  have k := h.l.only ho (by omega)
  exact ⟨h.r.set 2 _, ⟨k.fw, hL.2.2.only ho (by omega), k.i, k.wl, hL.1, k.wt, hL.2.1⟩⟩
theorem Sg.wots {w0 wz : World} {cb rb : Nat} {S : (List UInt8)} {st : St} {r0 : Array Value} {g : SigR} {wa pa : Option Addr} {wc pc : Nat} (h : Sg w0 cb rb S st r0 g wa pa wc pc wz) (ao : Option Addr) (cp : Nat) (L : List (List UInt8)) (hL : L.length ≤ 67 ∧ (∀ x ∈ L, x.length ≤ S.length) ∧ Fresh (w0.heap.size + 2) ao L wz) : Sg w0 cb rb S st r0 { g with wots := L } ao pa cp pc (wz.setCell ⟨w0.heap.size + 1, 1, none⟩ (.slice ao L.length cp)) := by
  have ho := Only.set (w0.heap.size + 1) 1 (.slice ao L.length cp) wz
  have k := h.l.only ho (by omega)
  exact ⟨h.r.set 1 _, ⟨hL.2.2.only ho (by omega), k.fp, k.i, hL.1, k.pl, hL.2.1, k.pt⟩⟩
set_option maxRecDepth 100000 in
set_option maxHeartbeats 2000000 in
theorem csig_any {cb rb : Nat} {S : (List UInt8)} {st : St} {w : World} (hS : S.length ≤ 1000000) (h : Curs cb rb S st w) :
    Calls Tryz.prog 166 #[.pointer (some ⟨cb, 0, none⟩)] w fun e w' => ∃ (q : SigR) (wa pa : Option Addr) (wc pc : Nat), e = .returned (.agg #[.int .u64 (q.index : Int), .slice wa q.wots.length wc, .slice pa q.path.length pc]) ∧ Hid (SigL w.heap.size S q wa pa w') ∧ Hid (CGot cb rb S (runS S sigC.get st) q w w') := by
  have HPR := Lib.hid (fun (st : St) (wz : World) (h : Curs cb rb S st wz) => cpairs_any hS h)
  have HK := Lib.hid (show ∀ (last : (List UInt8)) (st : St) (wz : World), Curs cb rb S st wz → Calls Tryz.prog 65 #[.pointer (some ⟨cb, 0, none⟩), .string ⟨#[105, 112, 118]⟩, .string ⟨last.toArray⟩] wz (fun e w' => ∃ t : (List UInt8), e = .returned (.string ⟨t.toArray⟩) ∧ Hid (CGot cb rb S (runS S (keyG (sigFs.map (·.key)) last) st) t wz w')) from fun last st wz h => ckey_any [105, 112, 118] (by decide) last hS h)
  have HN := Lib.hid (fun (st : St) (wz : World) (h : Curs cb rb S st wz) => cnum_any hS h)
  have HD16 := Lib.hid (show ∀ (st : St) (wz : World), Curs cb rb S st wz → Calls Tryz.prog 66 #[.pointer (some ⟨cb, 0, none⟩), .int .u64 16] wz _ from fun st wz h => cdigests_any 16 (by decide) hS h)
  have HD67 := Lib.hid (show ∀ (st : St) (wz : World), Curs cb rb S st wz → Calls Tryz.prog 66 #[.pointer (some ⟨cb, 0, none⟩), .int .u64 67] wz _ from fun st wz h => cdigests_any 67 (by decide) hS h)
  have R := Lib.hid (show Sg w cb rb S st #[.int .u64 0, .slice none 0 0, .slice none 0 0] zSig none none 0 0 ((w.alloc (.cells #[.int .u64 0, .slice none 0 0, .slice none 0 0] 51)).alloc (.cells #[.int .u64 0, .slice none 0 0, .slice none 0 0] 51)) from ⟨Rd.start h 51 #[.int .u64 0, .slice none 0 0, .slice none 0 0], SigL.zero _ _ _⟩)
  obtain ⟨tot, hT⟩ : ∃ tot, allS S sigFs zSig st = tot := ⟨_, rfl⟩
  have HE := Lib.hid (show ∀ q, Got tot q → _ from hT ▸ map_run S sigFs zSig (fun _ => true) st)
  have HTOT := Lib.hid hT
  clear h hS hT
  go_enter Tryz.func166, Tryz.ntmps166
  go_upto_region 2 with fail
  change Code.wp _ _ _ _ ((w.alloc (.cells #[.int .u64 0, .slice none 0 0, .slice none 0 0] 51)).alloc (.cells #[.int .u64 0, .slice none 0 0, .slice none 0 0] 51))
  generalize (w.alloc (.cells #[.int .u64 0, .slice none 0 0, .slice none 0 0] 51)).alloc (.cells #[.int .u64 0, .slice none 0 0, .slice none 0 0] 51) = w1 at *
  go_wp2_with fail
  refine (HPR.out _ _ R.out.r.c).mono ?_
  rintro e w2 ⟨n, rfl, hn, HQ⟩
  have PI := Lib.hid (HTOT.out ▸ PInv.start S sigFs zSig st n HQ.out.g)
  have R := Lib.hid (R.out.call HQ.out.o HQ.out.c)
  have HNN := Lib.hid hn
  clear hn HQ HPR HTOT
  generalize endS (runS S sizeG st) = st1 at *
  go_wp2_with fail
  go_loopw [5, 6] (fun l i wr => ∃ (k : Nat) (last : (List UInt8)) (q : SigR) (wa pa : Option Addr) (wc pc : Nat) (st2 : St), k ≤ n ∧ l = .string ⟨last.toArray⟩ ∧ i = .int .u64 (k : Int) ∧ Hid (Sg w cb rb S st2 #[.int .u64 0, .slice none 0 0, .slice none 0 0] q wa pa wc pc wr) ∧ Hid (PInv S sigFs tot (n - k) q last st2))
    (fun _ i _ => n - (intOf i).toNat)
  case atStart => exact ⟨0, [], zSig, none, none, 0, 0, st1, Nat.zero_le _, rfl, rfl, R, PI⟩
  case round =>
    obtain ⟨k, last, q, wa, pa, wc, pc, st2, hk, rfl, rfl, R, PI⟩ := hrel
    have HB := Lib.hid (bad_any R.out.r.c)
    by_cases hlt : k < n
    · have kd : decide ((k : Int) < (n : Int)) = true := decide_eq_true (by omega)
      have k3 : (k : Int) ≤ 65536 := by have := HNN.out; omega
      have k4 : (0 : Int) ≤ (k : Int) := by omega
      have HLT := Lib.hid hlt
      clear hlt hk
      cases st2 with
      | error f =>
        have PD := Lib.hid (PI.out.done (.inr rfl))
        simp only [badS] at HB
        clear PI HN HD16 HD67 HK
        have y0 := (lit_cell R.out.r.p 0).trans rfl; have y1 := (lit_cell R.out.r.p 1).trans rfl; have y2 := (lit_cell R.out.r.p 2).trans rfl
        have x0 := (lit_cell R.out.r.r 0).trans rfl; have x1 := (lit_cell R.out.r.r 1).trans rfl; have x2 := (lit_cell R.out.r.r 2).trans rfl
        have f0 := lit_free R.out.r.r 0; have f1 := lit_free R.out.r.r 1; have f2 := lit_free R.out.r.r 2
        go_wp2_with (go_at_call 64; refine HB.out.mono ?_; rintro e w4 ⟨rfl, rfl⟩)
        have hx7 := lit_set (k := 2) (.slice pa q.path.length pc) (lit_set (k := 1) (.slice wa q.wots.length wc) (lit_set (k := 0) (.int .u64 (q.index : Int)) R.out.r.r))
        have ho7 := ((Only.set w.heap.size 0 (.int .u64 (q.index : Int)) w4).trans (Only.set w.heap.size 1 (.slice wa q.wots.length wc) _)).trans (Only.set w.heap.size 2 (.slice pa q.path.length pc) _)
        obtain ⟨hC, hO⟩ := R.out.r.fin ho7
        have hL := (R.out.l.only ho7 (by omega)).weak (lo2 := w.heap.size) (by omega)
        clear ho7
        generalize (((w4).setCell ⟨w.heap.size, 0, none⟩ (.int .u64 (q.index : Int))).setCell ⟨w.heap.size, 1, none⟩ (.slice wa q.wots.length wc)).setCell ⟨w.heap.size, 2, none⟩ (.slice pa q.path.length pc) = w7 at *
        have v0 := (lit_cell hx7 0).trans rfl; have v1 := (lit_cell hx7 1).trans rfl; have v2 := (lit_cell hx7 2).trans rfl
        obtain ⟨g1, g2⟩ := HE.out q PD.out.2
        rw [show (!true) = false from rfl, failS_false, PD.out.1] at g1
        refine bodyPost_ret (v := .agg #[.int .u64 (q.index : Int), .slice wa q.wots.length wc, .slice pa q.path.length pc]) (by simp [results, Tryz.results166, go_sem, v0, v1, v2]) rfl ⟨q, wa, pa, wc, pc, rfl, Lib.hid hL, Lib.hid ⟨g2, g1 ▸ hC, hO⟩⟩
      | ok a =>
        simp only [badS] at HB
        rw [show n - k = (n - (k + 1)) + 1 by have := HLT.out; omega] at PI
        go_upto_region 7 with (go_at_call 64; refine HB.out.mono ?_; rintro e w4 ⟨rfl, rfl⟩)
        go_wp2_with fail
        refine (HK.out _ _ _ R.out.r.c).mono ?_
        rintro e w3 ⟨t, rfl, HQ⟩
        have KI := Lib.hid (PI.out.key sig_rise t HQ.out.g)
        have R3 := Lib.hid (R.out.call HQ.out.o HQ.out.c)
        generalize endS (runS S (keyG (sigFs.map (·.key)) last) (.ok a)) = st3 at *
        clear HQ R PI HB HK HE
        have hz3 := R3.out.r.o.size
        have hz4 : w.heap.size + 2 ≤ w3.heap.size := by have := lit_lt R3.out.r.p; omega
        have HZ := Lib.hid hz4
        clear hz3 hz4
        by_cases e0 : t = [105]
        · subst e0
          go_wp2_with fail
          refine (HN.out _ _ R3.out.r.c).mono ?_
          rintro e w4 ⟨x, rfl, hx, HX⟩
          have HXL := Lib.hid hx
          have R4 := Lib.hid (R3.out.call HX.out.o HX.out.c)
          have z := (lit_cell R4.out.r.p 0).trans rfl
          have f := lit_free R4.out.r.p 0
          clear hx R3 HD16 HD67
          go_wp2
          go_roundw
          case rel => exact ⟨k + 1, [105], { q with index := x }, wa, pa, wc, pc, _, HLT.out, rfl, by go_num, Lib.hid (R4.out.index x HXL.out), Lib.hid (KI.out.arm (numFld 105 (fun p : SigR => p.index) (fun (p : SigR) v => { p with index := v })) sig_rise (by simp [sigFs]) x HX.out.g)⟩
          case measure => have := HLT.out; simp [intOf] <;> omega
        · by_cases e1 : t = [112]
          · subst e1
            go_wp2_with fail
            refine (HD16.out _ _ R3.out.r.c).mono ?_
            rintro e w4 ⟨ao, cp, L, rfl, HL, HX⟩
            have R4 := Lib.hid (R3.out.call HX.out.o HX.out.c)
            have z := (lit_cell R4.out.r.p 2).trans rfl
            have f := lit_free R4.out.r.p 2
            clear R3 HN HD67
            go_wp2
            go_roundw
            case rel => exact ⟨k + 1, [112], { q with path := L }, wa, ao, wc, cp, _, HLT.out, rfl, by go_num, Lib.hid (R4.out.path ao cp L ⟨HL.out.1, HL.out.2.1, HL.out.2.2.weak HZ.out⟩), Lib.hid (KI.out.arm (listFld 112 16 (by decide) digC (fun p : SigR => p.path) (fun (p : SigR) v => { p with path := v })) sig_rise (by simp [sigFs]) L HX.out.g)⟩
            case measure => have := HLT.out; simp [intOf] <;> omega
          · by_cases e2 : t = [118]
            · subst e2
              go_wp2_with fail
              refine (HD67.out _ _ R3.out.r.c).mono ?_
              rintro e w4 ⟨ao, cp, L, rfl, HL, HX⟩
              have R4 := Lib.hid (R3.out.call HX.out.o HX.out.c)
              have z := (lit_cell R4.out.r.p 1).trans rfl
              have f := lit_free R4.out.r.p 1
              clear R3 HN HD16
              go_wp2
              go_roundw
              case rel => exact ⟨k + 1, [118], { q with wots := L }, ao, pa, cp, pc, _, HLT.out, rfl, by go_num, Lib.hid (R4.out.wots ao cp L ⟨HL.out.1, HL.out.2.1, HL.out.2.2.weak HZ.out⟩), Lib.hid (KI.out.arm (listFld 118 67 (by decide) digC (fun p : SigR => p.wots) (fun (p : SigR) v => { p with wots := v })) sig_rise (by simp [sigFs]) L HX.out.g)⟩
              case measure => have := HLT.out; simp [intOf] <;> omega
            · have f0 : (t == [105]) = false := by simpa using e0
              have f1 : (t == [112]) = false := by simpa using e1
              have f2 : (t == [118]) = false := by simpa using e2
              have KN := Lib.hid (KI.out.none (t := t) (by simp only [sigFs, List.mem_cons, List.not_mem_nil, or_false, forall_eq_or_imp, forall_eq, numFld, listFld]; exact ⟨fun h => e0 h.symm, fun h => e1 h.symm, fun h => e2 h.symm⟩) (n - (k + 1)) q t)
              clear e0 e1 e2 KI HN HD16 HD67
              go_wp2
              go_roundw
              case rel => exact ⟨k + 1, t, q, wa, pa, wc, pc, st3, HLT.out, rfl, by go_num, R3, KN⟩
              case measure => have := HLT.out; simp [intOf] <;> omega
    · have k1 : ¬ (k : Int) < (n : Int) := by omega
      obtain rfl : k = n := by omega
      have PD := Lib.hid (PI.out.done (.inl (Nat.sub_self _)))
      clear PI HN HD16 HD67 HK hlt hk
      have y0 := (lit_cell R.out.r.p 0).trans rfl; have y1 := (lit_cell R.out.r.p 1).trans rfl; have y2 := (lit_cell R.out.r.p 2).trans rfl
      have x0 := (lit_cell R.out.r.r 0).trans rfl; have x1 := (lit_cell R.out.r.r 1).trans rfl; have x2 := (lit_cell R.out.r.r 2).trans rfl
      have f0 := lit_free R.out.r.r 0; have f1 := lit_free R.out.r.r 1; have f2 := lit_free R.out.r.r 2
      go_wp2_with (go_at_call 64; refine HB.out.mono ?_; rintro e w4 ⟨rfl, rfl⟩)
      have hx7 := lit_set (k := 2) (.slice pa q.path.length pc) (lit_set (k := 1) (.slice wa q.wots.length wc) (lit_set (k := 0) (.int .u64 (q.index : Int)) R.out.r.r))
      have ho7 := ((Only.set w.heap.size 0 (.int .u64 (q.index : Int)) wr).trans (Only.set w.heap.size 1 (.slice wa q.wots.length wc) _)).trans (Only.set w.heap.size 2 (.slice pa q.path.length pc) _)
      obtain ⟨hC, hO⟩ := R.out.r.fin ho7
      have hL := (R.out.l.only ho7 (by omega)).weak (lo2 := w.heap.size) (by omega)
      clear ho7
      generalize (((wr).setCell ⟨w.heap.size, 0, none⟩ (.int .u64 (q.index : Int))).setCell ⟨w.heap.size, 1, none⟩ (.slice wa q.wots.length wc)).setCell ⟨w.heap.size, 2, none⟩ (.slice pa q.path.length pc) = w7 at *
      have v0 := (lit_cell hx7 0).trans rfl; have v1 := (lit_cell hx7 1).trans rfl; have v2 := (lit_cell hx7 2).trans rfl
      obtain ⟨g1, g2⟩ := HE.out q PD.out.2
      rw [show (!true) = false from rfl, failS_false, PD.out.1] at g1
      refine bodyPost_ret (v := .agg #[.int .u64 (q.index : Int), .slice wa q.wots.length wc, .slice pa q.path.length pc]) (by simp [results, Tryz.results166, go_sem, v0, v1, v2]) rfl ⟨q, wa, pa, ⟨wc, pc, rfl⟩, Lib.hid hL, Lib.hid ⟨g2, g1 ▸ hC, hO⟩⟩
end Go.Proofs.YtlhmmplkdjibkaaGreatDoor
