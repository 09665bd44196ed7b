/- Layer 14's law: LadderVerifies. -/
import Derived.Test.YtmnklonoelpidaaGreatDoorJLaeb
import Derived.Test.YtmnklonoelpidaaGreatDoorJ43
import Derived.Test.YtmnklonoelpidaaGreatDoorJ26
import Derived.Test.YtmnklonoelpidaaGreatDoorJLadc
import Derived.Test.YtmnklonoelpidaaGreatDoorJ35
import Derived.Test.YtmnklonoelpidaaGreatDoorJ36
import Derived.Test.YtmnklonoelpidaaGreatDoorJ39
import Derived.Test.YtmnklonoelpidaaGreatDoorJLadk
namespace Go.Proofs.YtmnklonoelpidaaGreatDoor
open Go.RowKit

theorem strs_cut {ao : Option Addr} {L : List (List UInt8)} {w : World} (h : Strs ao L w) (m : Nat) : Strs ao (L.take m) w := by
  rcases h with h | ⟨b, off, h1, h2, h3⟩
  · exact .inl (by rw [h, List.take_nil])
  · exact .inr ⟨b, off, h1, h2, fun i hi => by rw [List.getElem_take]; exact h3 i (by rw [List.length_take] at hi; omega)⟩
/-- what came in, in boxes -/
structure V14 (w0 : World) (A : Nat) (ms xs os : Array Value) (wz : World) : Prop where
  sz : w0.heap.size = A
  o : Below A w0 wz
  m : wz.heap[A]? = some (.cells ms 24 (0, 0))
  x : wz.heap[A + 1]? = some (.cells xs 54 (0, 0))
  t : wz.heap[A + 2]? = some (.cells os 48 (0, 0))
theorem V14.next {w0 wz wa : World} {A : Nat} {ms xs os : Array Value} (h : V14 w0 A ms xs os wz) (hb : Below wz.heap.size wz wa) : V14 w0 A ms xs os wa :=
  ⟨h.sz, h.o.trans (hb.mono (by have := h.o.size; have := h.sz; omega)), (hb.block _ (lit_lt h.m)).trans h.m, (hb.block _ (lit_lt h.x)).trans h.x, (hb.block _ (lit_lt h.t)).trans h.t⟩
theorem V14.putM {w0 wz : World} {A k : Nat} {v : Value} {ms xs os : Array Value} (h : V14 w0 A ms xs os wz) : V14 w0 A (ms.setIfInBounds k v) xs os (wz.setCell ⟨A, k, none⟩ v) := by
  have hk : Kept (fun j => j ≠ A) wz (wz.setCell ⟨A, k, none⟩ v) := (Kept.refl _ wz).setCell A k _ (fun _ h => h rfl)
  exact ⟨h.sz, h.o.setCell (p := ⟨A, k, none⟩) (Nat.le_refl _) _, lit_set (k := k) v h.m, (hk.block _ (lit_lt h.x) (by omega)).trans h.x, (hk.block _ (lit_lt h.t) (by omega)).trans h.t⟩
theorem V14.putT {w0 wz : World} {A k : Nat} {v : Value} {ms xs os : Array Value} (h : V14 w0 A ms xs os wz) : V14 w0 A ms xs (os.setIfInBounds k v) (wz.setCell ⟨A + 2, k, none⟩ v) := by
  have hk : Kept (fun j => j ≠ A + 2) wz (wz.setCell ⟨A + 2, k, none⟩ v) := (Kept.refl _ wz).setCell (A + 2) k _ (fun _ h => h rfl)
  exact ⟨h.sz, h.o.setCell (p := ⟨A + 2, k, none⟩) (show A ≤ A + 2 by omega) _, (hk.block _ (lit_lt h.m) (by omega)).trans h.m, (hk.block _ (lit_lt h.x) (by omega)).trans h.x, lit_set (k := k) v h.t⟩
/-- with the document's ladder, and what it signed -/
structure U14 (w0 : World) (A : Nat) (ms xs os : Array Value) (b : Nat) (s : (List UInt8)) (f l n B k : Nat) (W P : List (List UInt8)) (wo po : Option Addr) (wc pc : Nat) (wz : World) : Prop where
  v : V14 w0 A ms xs os wz
  l : RLad b s f l n wz
  g : wz.heap[B]? = some (.cells #[.int .u64 (k : Int), .slice wo 67 wc, .slice po P.length pc] 48 (0, 0))
  hw : Strs wo W wz
  hp : Strs po P wz
theorem U14.next {w0 wz wa : World} {A : Nat} {ms xs os : Array Value} {b : Nat} {s : (List UInt8)} {f l n B k : Nat} {W P : List (List UInt8)} {wo po : Option Addr} {wc pc : Nat} (h : U14 w0 A ms xs os b s f l n B k W P wo po wc pc wz) (hb : Below wz.heap.size wz wa) : U14 w0 A ms xs os b s f l n B k W P wo po wc pc wa :=
  ⟨h.v.next hb, h.l.next hb, (hb.block _ (lit_lt h.g)).trans h.g, h.hw.below (Nat.le_refl _) hb, h.hp.below (Nat.le_refl _) hb⟩
theorem path_few14 (s : (List UInt8)) (n k : Nat) (hn : n ≤ 64) (hk : k < n) : (proofD (rungsL s n) [k]).length ≤ 1000 := by
  have hd16 : dep n ≤ 16 := dep_le n (by omega)
  rw [proofD_len, rungsL_len]
  have h1 := pre_bound (M := needM (lvs [k] (dep n)) (dep n)) (B := 20) (fun N hN => by
    obtain ⟨i, hi⟩ := List.getElem?_of_mem hN
    have h1 := need_le ((needs_M (L := lvs [k] (dep n)) (d := dep n) (fun x hx => by
      obtain ⟨y, hy, rfl⟩ := List.mem_map.1 hx
      have hy : y = k := by simpa using hy
      exact turnB_lt hd16 (Nat.lt_of_lt_of_le (by omega) (dep_spec n (by omega)).1))).2 i N hi)
    simp only [upTo, List.length_map] at h1
    simp at h1
    omega) (dep n) (by rw [needM_len]; exact Nat.le_refl _)
  omega
set_option maxRecDepth 100000 in
set_option maxHeartbeats 40000000 in
theorem ladderVerifies_any {Ld : Nat → (List UInt8) → Nat → Nat → Nat → World → Prop} (L : LadderC Ld) (HWK : WorksL) (s d z F E : Nat) (K : Int) (R wt q y zz oi : Nat) (OL OP : List (List UInt8)) (owo opo : Option Addr) (owc opc : Nat) (w : World) (hg : Glob w) (hs : s < 256) (hd : d < 256) (hF : F < 18446744073709551616) (hE : E < 18446744073709551616) (hK : -9223372036854775808 ≤ K ∧ K ≤ 9223372036854775807) (hR : R < 18446744073709551616) (hq : q < 256) (hy : y < 256) (hzz : zz < 256) (hoi : oi < 18446744073709551616) (hOL : Strs owo OL w) (hOP : Strs opo OP w) (hlc : OL.length ≤ owc) (hlm : owc ≤ maxLen) (hpc : OP.length ≤ opc) (hpm : opc ≤ maxLen) :
    Calls Tryz.prog 4 #[.agg #[.int .u8 (s : Int), .int .u8 (d : Int), .int .u8 (z : Int), .int .u64 (F : Int), .int .u64 (E : Int), .int .i64 K, .int .u64 (R : Int), .int .u64 (wt : Int)], .agg #[.int .u8 (q : Int), .int .u8 (y : Int), .int .u8 (zz : Int)], .agg #[.int .u64 (oi : Int), .slice owo OL.length owc, .slice opo OP.length opc]] w fun e w' => e = .returned (.bool true) ∧ Below w.heap.size w w' := by
  have HWO := Lib.hid (fun wz (h : Below w.heap.size w wz) => HWK wz (hg.below hg.size h))
  have HGB := Lib.hid (fun wz (h : Below w.heap.size w wz) => hg.below hg.size h)
  obtain ⟨M, hM⟩ : ∃ M : Nat, M = K.toNat := ⟨_, rfl⟩
  have hmax : max 0 K = (M : Int) := by omega
  obtain ⟨m8, hm8⟩ : ∃ m, m = M % 8 := ⟨_, rfl⟩
  obtain ⟨m6, hm6⟩ : ∃ m, m = E % 1000 := ⟨_, rfl⟩
  obtain ⟨n, hn⟩ : ∃ n, n = 1 + m8 := ⟨_, rfl⟩
  obtain ⟨l, hl⟩ : ∃ l, l = 1 + m6 := ⟨_, rfl⟩
  obtain ⟨f, hf⟩ : ∃ f, f = F / 4 := ⟨_, rfl⟩
  have hn8 : n ≤ 8 := by omega
  have hl6 : l ≤ 1000 := by omega
  have hn1 : 1 ≤ n := by omega
  have hl1 : 0 < l := by omega
  obtain ⟨a, ha⟩ : ∃ a, a = l * n := ⟨_, rfl⟩
  have ha48 : a ≤ 8000 := by rw [ha]; exact Nat.mul_le_mul hl6 hn8
  have ha1 : 0 < a := by rw [ha]; exact Nat.mul_pos hl1 hn1
  obtain ⟨x, hx⟩ : ∃ x, x = R % a := ⟨_, rfl⟩
  have hxa : x < a := by rw [hx]; exact Nat.mod_lt _ ha1
  obtain ⟨r, hr⟩ : ∃ r, r = f + x := ⟨_, rfl⟩
  obtain ⟨r2, hr2⟩ : ∃ r2, r2 = r + l := ⟨_, rfl⟩
  obtain ⟨k, hk⟩ : ∃ k, k = x / l := ⟨_, rfl⟩
  have hkn : k < n := by rw [hk]; exact Nat.div_lt_of_lt_mul (by rw [← ha]; exact hxa)
  have hf62 : f ≤ 4611686018427387904 := by omega
  have hrf : r - f = x := by omega
  have hkey : keyF f l n r = (k, true) := by rw [keyF_yes (by omega) (by rw [hrf, ← hk]; exact hkn), hrf, hk]
  obtain ⟨S, hS⟩ : ∃ S, S = txtF s 32 := ⟨_, rfl⟩
  obtain ⟨D, hD⟩ : ∃ D, D = txtF d 32 := ⟨_, rfl⟩
  obtain ⟨G, hG⟩ : ∃ G, G = txtF d 31 := ⟨_, rfl⟩
  have hsl : S.length = 32 := by rw [hS, txtF_len]
  have hdl : D.length = 32 := by rw [hD, txtF_len]
  have hgl : G.length = 31 := by rw [hG, txtF_len]
  have HTS := Lib.hid (fun wz => show Calls Tryz.prog 9 #[.int .u8 (s : Int), .int .i64 32] wz fun e w' => e = .returned (.string ⟨S.toArray⟩) ∧ Below wz.heap.size wz w' by rw [hS]; exact text14_any s 32 wz hs (by decide))
  have HTD := Lib.hid (fun wz => show Calls Tryz.prog 9 #[.int .u8 (d : Int), .int .i64 32] wz fun e w' => e = .returned (.string ⟨D.toArray⟩) ∧ Below wz.heap.size wz w' by rw [hD]; exact text14_any d 32 wz hd (by decide))
  have HTG := Lib.hid (fun wz => show Calls Tryz.prog 9 #[.int .u8 (d : Int), .int .i64 31] wz fun e w' => e = .returned (.string ⟨G.toArray⟩) ∧ Below wz.heap.size wz w' by rw [hG]; exact text14_any d 31 wz hd (by decide))
  have HNR := Lib.hid (fun wz => rnew_good S f l n wz hsl hl1 (by omega) (by omega) hn1 (by omega) (by rw [← ha]; omega))
  obtain ⟨W, hW⟩ : ∃ W, W = sigL S k D := ⟨_, rfl⟩
  obtain ⟨P, hP⟩ : ∃ P, P = proofD (rungsL S n) [k] := ⟨_, rfl⟩
  obtain ⟨Q, hQ⟩ : ∃ Q, Q = rootS S n := ⟨_, rfl⟩
  have hwl : W.length = 67 := by rw [hW, sigL, row67_len]
  have hw32 : ∀ x ∈ W, x.length = 32 := fun x hx => by
    obtain ⟨j, hj, rfl⟩ := List.getElem_of_mem hx
    subst hW
    rw [show (sigL S k D)[j] = walkV (j : Int) 0 (dgt D j : Nat) (secF S k j) from row67_get _ j (by omega)]
    exact walkV_32 j _ _ (by omega) (dgt_le hdl (by omega)) (secF_32 _ _ _)
  have hpl1 : P.length ≤ 1000 := by rw [hP]; exact path_few14 S n k (by omega) hkn
  have hp32 : ∀ x ∈ P, x.length ≤ 1000 := by rw [hP]; exact path_short S n k
  have hql : Q.length = 32 := by rw [hQ]; exact rootS_32 S n
  have HSG := Lib.hid (fun b wz (hb : RLad b S f l n wz) => show Calls Tryz.prog 21 #[.pointer (some ⟨b, 0, none⟩), .int .u64 (r : Int), .string ⟨D.toArray⟩] wz fun e w' => ∃ (wo po : Option Addr) (kc kd : Nat), e = .returned (.tuple #[.agg #[.int .u64 (k : Int), .slice wo 67 kc, .slice po P.length kd], .int .i64 0]) ∧ Strs wo W w' ∧ Strs po P w' ∧ Below wz.heap.size wz w' by
    have h1 := rsign14_any b S f l n r D wz hb (by omega) hl1 (by omega) (by omega)
    have ha : signA S f l n r D = ⟨0, k, W, P⟩ := by rw [signA, hkey, if_neg (by simp), if_neg (by omega), hW, hP]
    rw [ha] at h1
    refine h1.mono ?_
    rintro e w' ⟨wo, po, kc, kd, h2, h3, h4, h6, h5⟩
    exact ⟨wo, po, kc, kd, by rw [h2]; simp only [hwl]; rfl, h3, h4, h5⟩)
  obtain ⟨wt2, hwt2⟩ : ∃ wt2, wt2 = (1 + wt) % 18446744073709551616 := ⟨_, rfl⟩
  have hwt3 : wt2 < 18446744073709551616 := by omega
  have t1 : IntKind.u64.wrap (1 + (wt : Int)) = (wt2 : Int) := by rw [IntKind.wrap_u64]; omega
  have HPA := Lib.hid (fun b wz (hb : RLad b S f l n wz) => show Calls Tryz.prog 17 #[.pointer (some ⟨b, 0, none⟩), .int .u64 (wt2 : Int)] wz fun e w' => e = .returned (.agg #[.string ⟨Q.toArray⟩, .int .u64 (wt2 : Int), .int .u64 (f : Int), .int .u64 (l : Int), .int .u64 (n : Int)]) ∧ Below wz.heap.size wz w' by rw [hQ]; exact rpart14_any b S f l n wt2 wz hb hn1 (by omega))
  have HSP := Lib.hid (fun (wo po : Option Addr) (kc kd : Nat) (wz : World) (h1 : Strs wo W wz) (h2 : Strs po P wz) => show Calls Tryz.prog 23 #[.agg #[.int .u64 (k : Int), .slice wo 67 kc, .slice po P.length kd], .agg #[.string ⟨Q.toArray⟩, .int .u64 (wt2 : Int), .int .u64 (f : Int), .int .u64 (l : Int), .int .u64 (n : Int)], .agg #[.int .u8 (q : Int), .int .u8 (y : Int), .int .u8 (zz : Int)]] wz (SpO wt2 wz) from spoilt_any k wt2 f l n W P wo po kc kd Q q y zz wz h1 h2 hwl hw32 hpl1 hp32 hql (by omega) (by omega) (by omega) (by omega) hq hy hzz)
  have u1 : (M : Int).tmod 8 = (m8 : Int) := by rw [Int.tmod_eq_emod_of_nonneg (by omega)]; omega
  have u2 : (M : Int) % 8 = (m8 : Int) := by omega
  have u3 : IntKind.i64.wrap (m8 : Int) = (m8 : Int) := IntWalk.i64_in _ (by omega)
  have u4 : (1 : Int) + (m8 : Int) = (n : Int) := by omega
  have u5 : IntKind.i64.wrap (n : Int) = (n : Int) := IntWalk.i64_in _ (by omega)
  have v1 : (E : Int).tmod 1000 = (m6 : Int) := by rw [Int.tmod_eq_emod_of_nonneg (by omega)]; omega
  have v2 : (E : Int) % 1000 = (m6 : Int) := by omega
  have v3 : IntKind.u64.wrap (m6 : Int) = (m6 : Int) := by rw [IntKind.wrap_u64]; omega
  have v4 : (1 : Int) + (m6 : Int) = (l : Int) := by omega
  have v5 : IntKind.u64.wrap (l : Int) = (l : Int) := by rw [IntKind.wrap_u64]; omega
  have x1 : (F : Int).tdiv 4 = (f : Int) := by rw [Int.tdiv_eq_ediv_of_nonneg (by omega)]; omega
  have x2 : (F : Int) / 4 = (f : Int) := by omega
  have x3 : IntKind.u64.wrap (f : Int) = (f : Int) := by rw [IntKind.wrap_u64]; omega
  have y1 : IntKind.u64.wrap (n : Int) = (n : Int) := by rw [IntKind.wrap_u64]; omega
  have y2 : (l : Int) * (n : Int) = (a : Int) := by rw [ha]; exact (Int.natCast_mul l n).symm
  have y3 : IntKind.u64.wrap (a : Int) = (a : Int) := by rw [IntKind.wrap_u64]; omega
  have y4 : (R : Int) % (a : Int) = (x : Int) := by rw [hx]; exact (Int.natCast_emod R a).symm
  have y5 : (R : Int).tmod (a : Int) = (x : Int) := by rw [Int.tmod_eq_emod_of_nonneg (by omega)]; exact y4
  have y6 : ¬ (a : Int) = 0 := by omega
  have hn0 : ¬ (a = 0) := by omega
  have y7 : (f : Int) + (x : Int) = (r : Int) := by omega
  have y8 : IntKind.u64.wrap (r : Int) = (r : Int) := by rw [IntKind.wrap_u64]; omega
  have y9 : IntKind.u64.wrap (x : Int) = (x : Int) := by rw [IntKind.wrap_u64]; omega
  have HY := Lib.hid (And.intro (show (r : Int) + (l : Int) = (r2 : Int) by omega) (show IntKind.u64.wrap (r2 : Int) = (r2 : Int) by rw [IntKind.wrap_u64]; omega))
  have HRQ := Lib.hid (show r < 18446744073709551616 ∧ R < 18446744073709551616 ∧ r2 < 18446744073709551616 from ⟨by omega, hR, by omega⟩)
  have HO := Lib.hid (And.intro hOL (And.intro hOP (And.intro hlc (And.intro hlm (And.intro hpc (And.intro hpm hoi))))))
  have HDL := Lib.hid (And.intro hdl (And.intro hgl hwt3))
  obtain ⟨A, hA⟩ : ∃ A, A = w.heap.size := ⟨_, rfl⟩
  obtain ⟨wa, hwa⟩ : ∃ wa, wa = w.alloc (.cells #[.int .u8 (s : Int), .int .u8 (d : Int), .int .u8 (z : Int), .int .u64 (F : Int), .int .u64 (E : Int), .int .i64 K, .int .u64 (R : Int), .int .u64 (wt : Int)] 24) := ⟨_, rfl⟩
  have za : wa.heap.size = A + 1 := by rw [hwa, World.size_alloc, hA]
  have xa : wa.heap[A]? = some (.cells #[.int .u8 (s : Int), .int .u8 (d : Int), .int .u8 (z : Int), .int .u64 (F : Int), .int .u64 (E : Int), .int .i64 K, .int .u64 (R : Int), .int .u64 (wt : Int)] 24 (0, 0)) := by rw [hwa, hA]; exact heap_alloc_new w _
  have ba : Below A w wa := by rw [hwa, hA]; exact by0 w _
  obtain ⟨wb, hwb⟩ : ∃ wb, wb = wa.alloc (.cells #[.int .u8 (q : Int), .int .u8 (y : Int), .int .u8 (zz : Int)] 54) := ⟨_, rfl⟩
  have zb : wb.heap.size = A + 2 := by rw [hwb, World.size_alloc, za]
  have xb : wb.heap[A + 1]? = some (.cells #[.int .u8 (q : Int), .int .u8 (y : Int), .int .u8 (zz : Int)] 54 (0, 0)) := by rw [hwb, ← za]; exact heap_alloc_new wa _
  have bb : Below A w wb := by rw [hwb]; exact ba.alloc (by omega) _
  obtain ⟨wi, hwi⟩ : ∃ wi, wi = wb.alloc (.cells #[.int .u64 (oi : Int), .slice owo OL.length owc, .slice opo OP.length opc] 48) := ⟨_, rfl⟩
  have xi : wi.heap[A + 2]? = some (.cells #[.int .u64 (oi : Int), .slice owo OL.length owc, .slice opo OP.length opc] 48 (0, 0)) := by rw [hwi, ← zb]; exact heap_alloc_new wb _
  have bi : Below A w wi := by rw [hwi]; exact bb.alloc (by omega) _
  have HV := Lib.hid (show V14 w A #[.int .u8 (s : Int), .int .u8 (d : Int), .int .u8 (z : Int), .int .u64 (F : Int), .int .u64 (E : Int), .int .i64 K, .int .u64 (R : Int), .int .u64 (wt : Int)] #[.int .u8 (q : Int), .int .u8 (y : Int), .int .u8 (zz : Int)] #[.int .u64 (oi : Int), .slice owo OL.length owc, .slice opo OP.length opc] wi from ⟨hA.symm, bi, by rw [hwi]; refine lit_old _ ?_; rw [hwb]; exact lit_old _ xa, by rw [hwi]; exact lit_old _ xb, xi⟩)
  have HWI := Lib.hid (show wi = ((w.alloc (.cells #[.int .u8 (s : Int), .int .u8 (d : Int), .int .u8 (z : Int), .int .u64 (F : Int), .int .u64 (E : Int), .int .i64 K, .int .u64 (R : Int), .int .u64 (wt : Int)] 24)).alloc (.cells #[.int .u8 (q : Int), .int .u8 (y : Int), .int .u8 (zz : Int)] 54)).alloc (.cells #[.int .u64 (oi : Int), .slice owo OL.length owc, .slice opo OP.length opc] 48) by rw [hwi, hwb, hwa])
  have HAA := Lib.hid hA
  clear hwa za xa ba hwb zb xb bb hwi xi bi hA
  clear hM hm8 hm6 hn hl hf hn8 hl6 hn1 hl1 ha ha48 ha1 hx hxa hr hr2 hk hkn hf62 hrf hkey hS hD hG hsl hdl hgl hW hP hQ hwl hw32 hpl1 hp32 hql hwt2 hwt3 hg hs hd hF hE hK hR hq hy hzz hoi hOL hOP hlc hlm hpc hpm
  go_enter Tryz.func4, Tryz.ntmps4
  go_upto_region 1 with fail
  rw [← HWI.out, ← HAA.out, show A + 1 + 1 = A + 2 from rfl]
  have m3 := (lit_cell HV.out.m 3).trans rfl
  have m4 := (lit_cell HV.out.m 4).trans rfl
  have m5 := (lit_cell HV.out.m 5).trans rfl
  have m2 := (lit_cell HV.out.m 2).trans rfl
  have f2 := lit_free HV.out.m 2
  have f3 := lit_free HV.out.m 3
  have f4 := lit_free HV.out.m 4
  have f5 := lit_free HV.out.m 5
  go_upto_region 5 with fail
  --MARK1
  clear m2 m3 m4 m5 f2 f3 f4 f5 u1 u2 u3 u4 u5 v1 v2 v3 v4 v5 x1 x2 x3 hmax
  have HV := Lib.hid (((HV.out.putM (k := 2) (v := .int .u8 0)).putM (k := 5) (v := .int .i64 (n : Int))).putM (k := 3) (v := .int .u64 (f : Int)) |>.putM (k := 4) (v := .int .u64 (l : Int)))
  have HV := Lib.hid (show V14 w A #[.int .u8 (s : Int), .int .u8 (d : Int), .int .u8 0, .int .u64 (f : Int), .int .u64 (l : Int), .int .i64 (n : Int), .int .u64 (R : Int), .int .u64 (wt : Int)] #[.int .u8 (q : Int), .int .u8 (y : Int), .int .u8 (zz : Int)] #[.int .u64 (oi : Int), .slice owo OL.length owc, .slice opo OP.length opc] ((((wi.setCell ⟨A, 2, none⟩ (.int .u8 0)).setCell ⟨A, 5, none⟩ (.int .i64 (n : Int))).setCell ⟨A, 3, none⟩ (.int .u64 (f : Int))).setCell ⟨A, 4, none⟩ (.int .u64 (l : Int))) from HV.out)
  generalize (((wi.setCell ⟨A, 2, none⟩ (.int .u8 0)).setCell ⟨A, 5, none⟩ (.int .i64 (n : Int))).setCell ⟨A, 3, none⟩ (.int .u64 (f : Int))).setCell ⟨A, 4, none⟩ (.int .u64 (l : Int)) = w5 at *
  have HC := Lib.hid (show ∀ wz, V14 w A #[.int .u8 (s : Int), .int .u8 (d : Int), .int .u8 0, .int .u64 (f : Int), .int .u64 (l : Int), .int .i64 (n : Int), .int .u64 (R : Int), .int .u64 (wt : Int)] #[.int .u8 (q : Int), .int .u8 (y : Int), .int .u8 (zz : Int)] #[.int .u64 (oi : Int), .slice owo OL.length owc, .slice opo OP.length opc] wz → (wz.cell? ⟨A, 0, none⟩ = some (.int .u8 (s : Int)) ∧ wz.cell? ⟨A, 3, none⟩ = some (.int .u64 (f : Int)) ∧ wz.cell? ⟨A, 4, none⟩ = some (.int .u64 (l : Int)) ∧ wz.cell? ⟨A, 5, none⟩ = some (.int .i64 (n : Int)) ∧ wz.cell? ⟨A, 6, none⟩ = some (.int .u64 (R : Int)) ∧ V14 w A #[.int .u8 (s : Int), .int .u8 (d : Int), .int .u8 0, .int .u64 (f : Int), .int .u64 (l : Int), .int .i64 (n : Int), .int .u64 (R : Int), .int .u64 (wt : Int)] #[.int .u8 (q : Int), .int .u8 (y : Int), .int .u8 (zz : Int)] #[.int .u64 (oi : Int), .slice owo OL.length owc, .slice opo OP.length opc] wz) from fun wz h => ⟨(lit_cell h.m 0).trans rfl, (lit_cell h.m 3).trans rfl, (lit_cell h.m 4).trans rfl, (lit_cell h.m 5).trans rfl, (lit_cell h.m 6).trans rfl, h⟩)
  have HST := Lib.hid (show ∀ wz wa, (wz.cell? ⟨A, 0, none⟩ = some (.int .u8 (s : Int)) ∧ wz.cell? ⟨A, 3, none⟩ = some (.int .u64 (f : Int)) ∧ wz.cell? ⟨A, 4, none⟩ = some (.int .u64 (l : Int)) ∧ wz.cell? ⟨A, 5, none⟩ = some (.int .i64 (n : Int)) ∧ wz.cell? ⟨A, 6, none⟩ = some (.int .u64 (R : Int)) ∧ V14 w A #[.int .u8 (s : Int), .int .u8 (d : Int), .int .u8 0, .int .u64 (f : Int), .int .u64 (l : Int), .int .i64 (n : Int), .int .u64 (R : Int), .int .u64 (wt : Int)] #[.int .u8 (q : Int), .int .u8 (y : Int), .int .u8 (zz : Int)] #[.int .u64 (oi : Int), .slice owo OL.length owc, .slice opo OP.length opc] wz) → Below wz.heap.size wz wa → (wa.cell? ⟨A, 0, none⟩ = some (.int .u8 (s : Int)) ∧ wa.cell? ⟨A, 3, none⟩ = some (.int .u64 (f : Int)) ∧ wa.cell? ⟨A, 4, none⟩ = some (.int .u64 (l : Int)) ∧ wa.cell? ⟨A, 5, none⟩ = some (.int .i64 (n : Int)) ∧ wa.cell? ⟨A, 6, none⟩ = some (.int .u64 (R : Int)) ∧ V14 w A #[.int .u8 (s : Int), .int .u8 (d : Int), .int .u8 0, .int .u64 (f : Int), .int .u64 (l : Int), .int .i64 (n : Int), .int .u64 (R : Int), .int .u64 (wt : Int)] #[.int .u8 (q : Int), .int .u8 (y : Int), .int .u8 (zz : Int)] #[.int .u64 (oi : Int), .slice owo OL.length owc, .slice opo OP.length opc] wa) from fun wz wa h hb => HC.out _ (h.2.2.2.2.2.next hb))
  have HAL := Lib.hid (show ∀ wz o, (wz.cell? ⟨A, 0, none⟩ = some (.int .u8 (s : Int)) ∧ wz.cell? ⟨A, 3, none⟩ = some (.int .u64 (f : Int)) ∧ wz.cell? ⟨A, 4, none⟩ = some (.int .u64 (l : Int)) ∧ wz.cell? ⟨A, 5, none⟩ = some (.int .i64 (n : Int)) ∧ wz.cell? ⟨A, 6, none⟩ = some (.int .u64 (R : Int)) ∧ V14 w A #[.int .u8 (s : Int), .int .u8 (d : Int), .int .u8 0, .int .u64 (f : Int), .int .u64 (l : Int), .int .i64 (n : Int), .int .u64 (R : Int), .int .u64 (wt : Int)] #[.int .u8 (q : Int), .int .u8 (y : Int), .int .u8 (zz : Int)] #[.int .u64 (oi : Int), .slice owo OL.length owc, .slice opo OP.length opc] wz) → ((wz.alloc o).cell? ⟨A, 0, none⟩ = some (.int .u8 (s : Int)) ∧ (wz.alloc o).cell? ⟨A, 3, none⟩ = some (.int .u64 (f : Int)) ∧ (wz.alloc o).cell? ⟨A, 4, none⟩ = some (.int .u64 (l : Int)) ∧ (wz.alloc o).cell? ⟨A, 5, none⟩ = some (.int .i64 (n : Int)) ∧ (wz.alloc o).cell? ⟨A, 6, none⟩ = some (.int .u64 (R : Int)) ∧ V14 w A #[.int .u8 (s : Int), .int .u8 (d : Int), .int .u8 0, .int .u64 (f : Int), .int .u64 (l : Int), .int .i64 (n : Int), .int .u64 (R : Int), .int .u64 (wt : Int)] #[.int .u8 (q : Int), .int .u8 (y : Int), .int .u8 (zz : Int)] #[.int .u64 (oi : Int), .slice owo OL.length owc, .slice opo OP.length opc] (wz.alloc o)) from fun wz o h => HC.out _ (h.2.2.2.2.2.next (by0 wz o)))
  have hS1 := HC.out _ (HV.out.next (Below.refl _ _).drew)
  go_region_held3 (fun wz => (wz.cell? ⟨A, 0, none⟩ = some (.int .u8 (s : Int)) ∧ wz.cell? ⟨A, 3, none⟩ = some (.int .u64 (f : Int)) ∧ wz.cell? ⟨A, 4, none⟩ = some (.int .u64 (l : Int)) ∧ wz.cell? ⟨A, 5, none⟩ = some (.int .i64 (n : Int)) ∧ wz.cell? ⟨A, 6, none⟩ = some (.int .u64 (R : Int)) ∧ V14 w A #[.int .u8 (s : Int), .int .u8 (d : Int), .int .u8 0, .int .u64 (f : Int), .int .u64 (l : Int), .int .i64 (n : Int), .int .u64 (R : Int), .int .u64 (wt : Int)] #[.int .u8 (q : Int), .int .u8 (y : Int), .int .u8 (zz : Int)] #[.int .u64 (oi : Int), .slice owo OL.length owc, .slice opo OP.length opc] wz))
    (first | (with_reducible assumption) | (with_reducible exact HAL.out _ _ (by with_reducible assumption)))
    (first
      | (go_at_call 9; with_reducible refine (HTS.out _).mono ?_; rintro e wa ⟨rfl, hba⟩; have hSa := HST.out _ _ (by with_reducible assumption) hba)
      | (go_at_call 12; with_reducible refine (HNR.out _).mono ?_; rintro e n4 ⟨b, rfl, hr4, hbn⟩; have hSn := HST.out _ _ hSa hbn; have R6 := Lib.hid hr4; clear hr4))
  all_goals
    have HV6 := Lib.hid hSn.2.2.2.2.2
    clear hSn hSa hS1 HTS HNR HAL
    have m1 := (lit_cell HV6.out.m 1).trans rfl
    go_upto_region 9 with (go_at_call 9; with_reducible refine (HTD.out _).mono ?_; rintro e w7 ⟨rfl, hb7⟩; have HV7 := Lib.hid (HV6.out.next hb7); have R7 := Lib.hid (R6.out.next hb7); clear hb7)
    clear m1 HTD
    have hS9 := HC.out _ (HV7.out.next (Below.refl _ _).drew)
    go_region_held3 (fun wz => (wz.cell? ⟨A, 0, none⟩ = some (.int .u8 (s : Int)) ∧ wz.cell? ⟨A, 3, none⟩ = some (.int .u64 (f : Int)) ∧ wz.cell? ⟨A, 4, none⟩ = some (.int .u64 (l : Int)) ∧ wz.cell? ⟨A, 5, none⟩ = some (.int .i64 (n : Int)) ∧ wz.cell? ⟨A, 6, none⟩ = some (.int .u64 (R : Int)) ∧ V14 w A #[.int .u8 (s : Int), .int .u8 (d : Int), .int .u8 0, .int .u64 (f : Int), .int .u64 (l : Int), .int .i64 (n : Int), .int .u64 (R : Int), .int .u64 (wt : Int)] #[.int .u8 (q : Int), .int .u8 (y : Int), .int .u8 (zz : Int)] #[.int .u64 (oi : Int), .slice owo OL.length owc, .slice opo OP.length opc] wz))
      (first | (with_reducible assumption))
      (first | (fail))
    clear hS9
    have HV9 := Lib.hid (HV7.out.next (Below.refl _ _).drew)
    have R9 := Lib.hid (R7.out.next (Below.refl _ _).drew)
    go_upto_region 11 with (go_at_call 21; with_reducible refine (HSG.out _ _ R9.out).mono ?_; rintro e w10 ⟨wo, po, kc, kd, rfl, hw10, hp10, hb10⟩; have HV10 := Lib.hid (HV9.out.next hb10); have R10 := Lib.hid (R9.out.next hb10); have SW10 := Lib.hid hw10; have SP10 := Lib.hid hp10; clear hw10 hp10 hb10)
    obtain ⟨B, hB⟩ : ∃ B, B = w10.heap.size := ⟨_, rfl⟩
    have HU := Lib.hid (show U14 w A #[.int .u8 (s : Int), .int .u8 (d : Int), .int .u8 0, .int .u64 (f : Int), .int .u64 (l : Int), .int .i64 (n : Int), .int .u64 (R : Int), .int .u64 (wt : Int)] #[.int .u8 (q : Int), .int .u8 (y : Int), .int .u8 (zz : Int)] #[.int .u64 (oi : Int), .slice owo OL.length owc, .slice opo OP.length opc] b S f l n B k W P wo po kc kd (w10.alloc (.cells #[.int .u64 (k : Int), .slice wo 67 kc, .slice po P.length kd] 48)) from
      ⟨HV10.out.next (by0 w10 _), R10.out.next (by0 w10 _), by rw [hB]; exact heap_alloc_new w10 _, SW10.out.below (Nat.le_refl _) (by0 w10 _), SP10.out.below (Nat.le_refl _) (by0 w10 _)⟩)
    rw [← hB]
    generalize w10.alloc (.cells #[.int .u64 (k : Int), .slice wo 67 kc, .slice po P.length kd] 48) = w11 at *
    clear hB HV10 R10 SW10 SP10 HV9 R9 HV7 R7 HV6 R6 HSG y1 y2 y3 y4 y5 y6 y7 y8 y9 hn0
    have g1 := (lit_cell HU.out.g 1).trans rfl
    go_upto_region 13 with fail
    clear g1
    have HD13 := Lib.hid (show ∀ wz, U14 w A #[.int .u8 (s : Int), .int .u8 (d : Int), .int .u8 0, .int .u64 (f : Int), .int .u64 (l : Int), .int .i64 (n : Int), .int .u64 (R : Int), .int .u64 (wt : Int)] #[.int .u8 (q : Int), .int .u8 (y : Int), .int .u8 (zz : Int)] #[.int .u64 (oi : Int), .slice owo OL.length owc, .slice opo OP.length opc] b S f l n B k W P wo po kc kd wz → (wz.cell? ⟨A, 7, none⟩ = some (.int .u64 (wt : Int)) ∧ wz.cell? ⟨A + 1, 0, none⟩ = some (.int .u8 (q : Int)) ∧ wz.cell? ⟨A + 1, 1, none⟩ = some (.int .u8 (y : Int)) ∧ wz.cell? ⟨A + 1, 2, none⟩ = some (.int .u8 (zz : Int)) ∧ wz.cell? ⟨B, 0, none⟩ = some (.int .u64 (k : Int)) ∧ wz.cell? ⟨B, 1, none⟩ = some (.slice wo 67 kc) ∧ wz.cell? ⟨B, 2, none⟩ = some (.slice po P.length kd) ∧ U14 w A #[.int .u8 (s : Int), .int .u8 (d : Int), .int .u8 0, .int .u64 (f : Int), .int .u64 (l : Int), .int .i64 (n : Int), .int .u64 (R : Int), .int .u64 (wt : Int)] #[.int .u8 (q : Int), .int .u8 (y : Int), .int .u8 (zz : Int)] #[.int .u64 (oi : Int), .slice owo OL.length owc, .slice opo OP.length opc] b S f l n B k W P wo po kc kd wz) from fun wz h => ⟨(lit_cell h.v.m 7).trans rfl, (lit_cell h.v.x 0).trans rfl, (lit_cell h.v.x 1).trans rfl, (lit_cell h.v.x 2).trans rfl, (lit_cell h.g 0).trans rfl, (lit_cell h.g 1).trans rfl, (lit_cell h.g 2).trans rfl, h⟩)
    go_cut [13, 14] from 75 (fun s13 s14 wx => ∃ (X Y : Nat) (D : SpD), s13 = .pointer (some ⟨X, 0, none⟩) ∧ s14 = .pointer (some ⟨Y, 0, none⟩) ∧ Hid (F13 w11 D wt2 X Y wx))
    case first =>
      refine wp_region_held_drew (S := fun wz => Below w11.heap.size w11 wz) (by kernel_rfl) (Below.refl _ _).drew (fun hS0 => ?_)
      have HR := Lib.hid (R13.start w11)
      generalize w11.drew = v0 at *
      refine wpAnyH_take (i := 0) (oi := ⟨some 76, .load 48 (.tmp 11), _, _, _, none⟩) (v := .agg #[.int .u64 (k : Int), .slice wo 67 kc, .slice po P.length kd]) rfl (by kernel_rfl) (by kernel_rfl) (by kernel_rfl) (fun _ _ _ h => h) (Or.inl ⟨by rfl, by (intro wq hSw; have hd := HD13.out _ (HU.out.next hSw); obtain ⟨h7, hx0, hx1, hx2, hb0, hb1, hb2, _⟩ := hd; go_simp)⟩) hS0 ?_
      simp only [Act.put, List.setIfInBounds_toArray, List.set_cons_succ, List.set_cons_zero]
      refine wpAnyH_take (i := 1) (oi := ⟨some 77, .move (.tmp 7), _, _, _, none⟩) (v := .pointer (some ⟨b, 0, none⟩)) rfl (by kernel_rfl) (by kernel_rfl) (by kernel_rfl) (fun _ _ _ h => h) (Or.inl ⟨by rfl, by (intro wq hSw; go_simp)⟩) hS0 ?_
      simp only [Act.put, List.setIfInBounds_toArray, List.set_cons_succ, List.set_cons_zero]
      refine wpAnyH_take (i := 2) (oi := ⟨some 78, .fieldAddr 24 (.tmp 3) 7, _, _, _, none⟩) (v := .pointer (some ⟨A, 7, none⟩)) rfl (by kernel_rfl) (by kernel_rfl) (by kernel_rfl) (fun _ _ _ h => h) (Or.inl ⟨by rfl, by (intro wq hSw; go_simp)⟩) hS0 ?_
      simp only [Act.put, List.setIfInBounds_toArray, List.set_cons_succ, List.set_cons_zero]
      refine wpAnyH_take (i := 3) (oi := ⟨some 79, .load 22 (.tmp 78), _, _, _, none⟩) (v := .int .u64 (wt : Int)) rfl (by kernel_rfl) (by kernel_rfl) (by kernel_rfl) (fun _ _ _ h => h) (Or.inl ⟨by rfl, by (intro wq hSw; have hd := HD13.out _ (HU.out.next hSw); obtain ⟨h7, hx0, hx1, hx2, hb0, hb1, hb2, _⟩ := hd; go_simp)⟩) hS0 ?_
      simp only [Act.put, List.setIfInBounds_toArray, List.set_cons_succ, List.set_cons_zero]
      refine wpAnyH_take (i := 4) (oi := ⟨some 80, .binOp .add 22 (.const (.int .u64 1)) (.tmp 79) 22, _, _, _, none⟩) (v := .int .u64 (wt2 : Int)) rfl (by kernel_rfl) (by kernel_rfl) (by kernel_rfl) (fun _ _ _ h => h) (Or.inl ⟨by rfl, by (intro wq hSw; go_simp)⟩) hS0 ?_
      simp only [Act.put, List.setIfInBounds_toArray, List.set_cons_succ, List.set_cons_zero]
      refine wpAnyH_take (i := 6) (oi := ⟨some 82, .load 54 (.tmp 4), _, _, _, none⟩) (v := .agg #[.int .u8 (q : Int), .int .u8 (y : Int), .int .u8 (zz : Int)]) rfl (by kernel_rfl) (by kernel_rfl) (by kernel_rfl) (fun _ _ _ h => h) (Or.inl ⟨by rfl, by (intro wq hSw; have hd := HD13.out _ (HU.out.next hSw); obtain ⟨h7, hx0, hx1, hx2, hb0, hb1, hb2, _⟩ := hd; go_simp)⟩) hS0 ?_
      simp only [Act.put, List.setIfInBounds_toArray, List.set_cons_succ, List.set_cons_zero]
      clear hS0
      refine wpAnyH_ready (rs := [5, 11, 12]) (by kernel_rfl) (by simp) (AllReadyH.cons (o := ⟨some 81, .call { callee := .value (.func 17), args := #[.tmp 77, .tmp 80], argTypes := _ }, _, _, _, none⟩) rfl (fun K hK => ?_) (AllReadyH.cons (o := ⟨some 13, .alloc 48, _, _, _, none⟩) rfl (fun K hK => ?_) (AllReadyH.cons (o := ⟨some 14, .alloc 39, _, _, _, none⟩) rfl (fun K hK => ?_) AllReadyH.nil)))
      · go_simp
        refine (HPA.out b _ (HU.out.next HR.out.b).l).mono ?_
        rintro e v1 ⟨rfl, hb1⟩
        have HN := Lib.hid (HR.out.next hb1)
        refine hK.out _ _ HN.out.b (fun _ => ?_)
        clear hK K HR hb1
        try simp only [Act.put, List.setIfInBounds_toArray, List.set_cons_succ, List.set_cons_zero]
        have HR := Lib.hid HN.out
        clear HN
        refine wpAnyH_ready (rs := [7, 11, 12]) (by kernel_rfl) (by simp) (AllReadyH.cons (o := ⟨some 83, .call { callee := .value (.func 23), args := #[.tmp 76, .tmp 81, .tmp 82], argTypes := _ }, _, _, _, none⟩) rfl (fun K hK => ?_) (AllReadyH.cons (o := ⟨some 13, .alloc 48, _, _, _, none⟩) rfl (fun K hK => ?_) (AllReadyH.cons (o := ⟨some 14, .alloc 39, _, _, _, none⟩) rfl (fun K hK => ?_) AllReadyH.nil)))
        · go_simp
          refine (HSP.out wo po kc kd _ (HU.out.next HR.out.b).hw (HU.out.next HR.out.b).hp).mono ?_
          rintro e v2 hsp
          obtain ⟨⟨i', f', l', n', W', P', wo', po', kw', kp', root'⟩, rfl, hok, hb1⟩ := hsp
          have HQ := Lib.hid (HR.out.spoilt hb1 hok)
          refine hK.out _ _ HQ.out.r.b (fun _ => ?_)
          clear hK K HR hb1 hok
          try dsimp only
          refine wpAnyH_take (i := 8) (oi := ⟨some 75, .move (.tmp 83), _, _, _, none⟩) (v := .tuple #[.agg #[.int .u64 (i' : Int), .slice wo' W'.length kw', .slice po' P'.length kp'], .agg #[.string ⟨root'.toArray⟩, .int .u64 (wt2 : Int), .int .u64 (f' : Int), .int .u64 (l' : Int), .int .u64 (n' : Int)]]) rfl (by kernel_rfl) (by kernel_rfl) (by kernel_rfl) (fun _ _ _ h => h) (Or.inl ⟨by rfl, by (intro wq hSw; go_simp)⟩) HQ.out.r.b ?_
          simp only [Act.put, List.setIfInBounds_toArray, List.set_cons_succ, List.set_cons_zero]
          refine wpAnyH_take (i := 9) (oi := ⟨some 84, .extract (.tmp 75) 0, _, _, _, none⟩) (v := .agg #[.int .u64 (i' : Int), .slice wo' W'.length kw', .slice po' P'.length kp']) rfl (by kernel_rfl) (by kernel_rfl) (by kernel_rfl) (fun _ _ _ h => h) (Or.inl ⟨by rfl, by (intro wq hSw; go_simp)⟩) HQ.out.r.b ?_
          simp only [Act.put, List.setIfInBounds_toArray, List.set_cons_succ, List.set_cons_zero]
          refine wpAnyH_take (i := 10) (oi := ⟨some 85, .extract (.tmp 75) 1, _, _, _, none⟩) (v := .agg #[.string ⟨root'.toArray⟩, .int .u64 (wt2 : Int), .int .u64 (f' : Int), .int .u64 (l' : Int), .int .u64 (n' : Int)]) rfl (by kernel_rfl) (by kernel_rfl) (by kernel_rfl) (fun _ _ _ h => h) (Or.inl ⟨by rfl, by (intro wq hSw; go_simp)⟩) HQ.out.r.b ?_
          simp only [Act.put, List.setIfInBounds_toArray, List.set_cons_succ, List.set_cons_zero]
          refine wpAnyH_ready (rs := [11, 12]) (by kernel_rfl) (by simp) (AllReadyH.cons (o := ⟨some 13, .alloc 48, _, _, _, none⟩) rfl (fun K hK => ?_) (AllReadyH.cons (o := ⟨some 14, .alloc 39, _, _, _, none⟩) rfl (fun K hK => ?_) AllReadyH.nil))
          · go_simp
            have HN := Lib.hid HQ.out.al1
            refine hK.out _ _ HN.out.r.b (fun _ => ?_)
            clear hK K HQ
            try simp only [Act.put, List.setIfInBounds_toArray, List.set_cons_succ, List.set_cons_zero]
            obtain ⟨X, hX⟩ : ∃ X, X = v2.heap.size := ⟨_, rfl⟩
            rw [← hX] at HN
            rw [← hX]
            generalize v2.alloc (.cells #[.int .u64 0, .slice none 0 0, .slice none 0 0] 48) = v3 at *
            have HQ := Lib.hid HN.out
            clear HN hX
            refine wpAnyH_ready (rs := [12]) (by kernel_rfl) (by simp) (AllReadyH.cons (o := ⟨some 14, .alloc 39, _, _, _, none⟩) rfl (fun K hK => ?_) AllReadyH.nil)
            · go_simp
              have HN := Lib.hid HQ.out.al2
              refine hK.out _ _ HN.out.r.b (fun _ => ?_)
              clear hK K HQ
              try simp only [Act.put, List.setIfInBounds_toArray, List.set_cons_succ, List.set_cons_zero]
              obtain ⟨Y, hY⟩ : ∃ Y, Y = v3.heap.size := ⟨_, rfl⟩
              rw [← hY] at HN
              rw [← hY]
              generalize v3.alloc (.cells #[.string ⟨#[]⟩, .int .u64 0, .int .u64 0, .int .u64 0, .int .u64 0] 39) = v4 at *
              have HQ := Lib.hid HN.out
              clear HN hY
              obtain ⟨_, hx⟩ := HQ.out.r.z1 X rfl
              have x0 := (lit_cell hx 0).trans rfl
              have e0 := lit_free hx 0
              have x1 := (lit_cell hx 1).trans rfl
              have e1 := lit_free hx 1
              have x2 := (lit_cell hx 2).trans rfl
              have e2 := lit_free hx 2
              clear hx
              refine wpAnyH_ready (rs := [13]) (by kernel_rfl) (by simp) (AllReadyH.cons (o := ⟨none, .store 48 (.tmp 13) (.tmp 84), _, _, _, none⟩) rfl (fun K hK => ?_) AllReadyH.nil)
              go_simp
              have hmid := HQ.out.mid (.int .u64 (i' : Int)) (.slice wo' W'.length kw') (.slice po' P'.length kp')
              refine hK.out _ _ hmid.2 (fun _ => ?_)
              clear hK K x0 x1 x2 e0 e1 e2
              try simp only [Act.put, List.setIfInBounds_toArray, List.set_cons_succ, List.set_cons_zero]
              have y0 := (lit_cell hmid.1 0).trans rfl
              have z0 := lit_free hmid.1 0
              have y1 := (lit_cell hmid.1 1).trans rfl
              have z1 := lit_free hmid.1 1
              have y2 := (lit_cell hmid.1 2).trans rfl
              have z2 := lit_free hmid.1 2
              have y3 := (lit_cell hmid.1 3).trans rfl
              have z3 := lit_free hmid.1 3
              have y4 := (lit_cell hmid.1 4).trans rfl
              have z4 := lit_free hmid.1 4
              clear hmid
              refine wpAnyH_ready (rs := [14]) (by kernel_rfl) (by simp) (AllReadyH.cons (o := ⟨none, .store 39 (.tmp 14) (.tmp 85), _, _, _, none⟩) rfl (fun K hK => ?_) AllReadyH.nil)
              go_simp
              have hend := HQ.out.end (wt := wt2)
              refine hK.out _ _ hend.b (fun _ => ?_)
              have HE := Lib.hid hend
              clear hK K hend y0 y1 y2 y3 y4 z0 z1 z2 z3 z4
              try simp only [Act.put, List.setIfInBounds_toArray, List.set_cons_succ, List.set_cons_zero]
              refine wpAnyH_done (by kernel_rfl) ?_ _
              go_wp2_with (fail)
              go_meet
              exact ⟨X, Y, ⟨i', f', l', n', W', P', wo', po', kw', kp', root'⟩, rfl, rfl, HE⟩
          · go_simp
            have HN := Lib.hid HQ.out.al2
            refine hK.out _ _ HN.out.r.b (fun _ => ?_)
            clear hK K HQ
            try simp only [Act.put, List.setIfInBounds_toArray, List.set_cons_succ, List.set_cons_zero]
            obtain ⟨Y, hY⟩ : ∃ Y, Y = v2.heap.size := ⟨_, rfl⟩
            rw [← hY] at HN
            rw [← hY]
            generalize v2.alloc (.cells #[.string ⟨#[]⟩, .int .u64 0, .int .u64 0, .int .u64 0, .int .u64 0] 39) = v5 at *
            have HQ := Lib.hid HN.out
            clear HN hY
            refine wpAnyH_ready (rs := [11]) (by kernel_rfl) (by simp) (AllReadyH.cons (o := ⟨some 13, .alloc 48, _, _, _, none⟩) rfl (fun K hK => ?_) AllReadyH.nil)
            · go_simp
              have HN := Lib.hid HQ.out.al1
              refine hK.out _ _ HN.out.r.b (fun _ => ?_)
              clear hK K HQ
              try simp only [Act.put, List.setIfInBounds_toArray, List.set_cons_succ, List.set_cons_zero]
              obtain ⟨X, hX⟩ : ∃ X, X = v5.heap.size := ⟨_, rfl⟩
              rw [← hX] at HN
              rw [← hX]
              generalize v5.alloc (.cells #[.int .u64 0, .slice none 0 0, .slice none 0 0] 48) = v6 at *
              have HQ := Lib.hid HN.out
              clear HN hX
              obtain ⟨_, hx⟩ := HQ.out.r.z1 X rfl
              have x0 := (lit_cell hx 0).trans rfl
              have e0 := lit_free hx 0
              have x1 := (lit_cell hx 1).trans rfl
              have e1 := lit_free hx 1
              have x2 := (lit_cell hx 2).trans rfl
              have e2 := lit_free hx 2
              clear hx
              refine wpAnyH_ready (rs := [13]) (by kernel_rfl) (by simp) (AllReadyH.cons (o := ⟨none, .store 48 (.tmp 13) (.tmp 84), _, _, _, none⟩) rfl (fun K hK => ?_) AllReadyH.nil)
              go_simp
              have hmid := HQ.out.mid (.int .u64 (i' : Int)) (.slice wo' W'.length kw') (.slice po' P'.length kp')
              refine hK.out _ _ hmid.2 (fun _ => ?_)
              clear hK K x0 x1 x2 e0 e1 e2
              try simp only [Act.put, List.setIfInBounds_toArray, List.set_cons_succ, List.set_cons_zero]
              have y0 := (lit_cell hmid.1 0).trans rfl
              have z0 := lit_free hmid.1 0
              have y1 := (lit_cell hmid.1 1).trans rfl
              have z1 := lit_free hmid.1 1
              have y2 := (lit_cell hmid.1 2).trans rfl
              have z2 := lit_free hmid.1 2
              have y3 := (lit_cell hmid.1 3).trans rfl
              have z3 := lit_free hmid.1 3
              have y4 := (lit_cell hmid.1 4).trans rfl
              have z4 := lit_free hmid.1 4
              clear hmid
              refine wpAnyH_ready (rs := [14]) (by kernel_rfl) (by simp) (AllReadyH.cons (o := ⟨none, .store 39 (.tmp 14) (.tmp 85), _, _, _, none⟩) rfl (fun K hK => ?_) AllReadyH.nil)
              go_simp
              have hend := HQ.out.end (wt := wt2)
              refine hK.out _ _ hend.b (fun _ => ?_)
              have HE := Lib.hid hend
              clear hK K hend y0 y1 y2 y3 y4 z0 z1 z2 z3 z4
              try simp only [Act.put, List.setIfInBounds_toArray, List.set_cons_succ, List.set_cons_zero]
              refine wpAnyH_done (by kernel_rfl) ?_ _
              go_wp2_with (fail)
              go_meet
              exact ⟨X, Y, ⟨i', f', l', n', W', P', wo', po', kw', kp', root'⟩, rfl, rfl, HE⟩
        · go_simp
          have HN := Lib.hid HR.out.al1
          refine hK.out _ _ HN.out.b (fun _ => ?_)
          clear hK K HR
          try simp only [Act.put, List.setIfInBounds_toArray, List.set_cons_succ, List.set_cons_zero]
          obtain ⟨X, hX⟩ : ∃ X, X = v1.heap.size := ⟨_, rfl⟩
          rw [← hX] at HN
          rw [← hX]
          generalize v1.alloc (.cells #[.int .u64 0, .slice none 0 0, .slice none 0 0] 48) = v7 at *
          have HR := Lib.hid HN.out
          clear HN hX
          refine wpAnyH_ready (rs := [7, 12]) (by kernel_rfl) (by simp) (AllReadyH.cons (o := ⟨some 83, .call { callee := .value (.func 23), args := #[.tmp 76, .tmp 81, .tmp 82], argTypes := _ }, _, _, _, none⟩) rfl (fun K hK => ?_) (AllReadyH.cons (o := ⟨some 14, .alloc 39, _, _, _, none⟩) rfl (fun K hK => ?_) AllReadyH.nil))
          · go_simp
            refine (HSP.out wo po kc kd _ (HU.out.next HR.out.b).hw (HU.out.next HR.out.b).hp).mono ?_
            rintro e v8 hsp
            obtain ⟨⟨i', f', l', n', W', P', wo', po', kw', kp', root'⟩, rfl, hok, hb1⟩ := hsp
            have HQ := Lib.hid (HR.out.spoilt hb1 hok)
            refine hK.out _ _ HQ.out.r.b (fun _ => ?_)
            clear hK K HR hb1 hok
            try dsimp only
            refine wpAnyH_take (i := 8) (oi := ⟨some 75, .move (.tmp 83), _, _, _, none⟩) (v := .tuple #[.agg #[.int .u64 (i' : Int), .slice wo' W'.length kw', .slice po' P'.length kp'], .agg #[.string ⟨root'.toArray⟩, .int .u64 (wt2 : Int), .int .u64 (f' : Int), .int .u64 (l' : Int), .int .u64 (n' : Int)]]) rfl (by kernel_rfl) (by kernel_rfl) (by kernel_rfl) (fun _ _ _ h => h) (Or.inl ⟨by rfl, by (intro wq hSw; go_simp)⟩) HQ.out.r.b ?_
            simp only [Act.put, List.setIfInBounds_toArray, List.set_cons_succ, List.set_cons_zero]
            refine wpAnyH_take (i := 9) (oi := ⟨some 84, .extract (.tmp 75) 0, _, _, _, none⟩) (v := .agg #[.int .u64 (i' : Int), .slice wo' W'.length kw', .slice po' P'.length kp']) rfl (by kernel_rfl) (by kernel_rfl) (by kernel_rfl) (fun _ _ _ h => h) (Or.inl ⟨by rfl, by (intro wq hSw; go_simp)⟩) HQ.out.r.b ?_
            simp only [Act.put, List.setIfInBounds_toArray, List.set_cons_succ, List.set_cons_zero]
            refine wpAnyH_take (i := 10) (oi := ⟨some 85, .extract (.tmp 75) 1, _, _, _, none⟩) (v := .agg #[.string ⟨root'.toArray⟩, .int .u64 (wt2 : Int), .int .u64 (f' : Int), .int .u64 (l' : Int), .int .u64 (n' : Int)]) rfl (by kernel_rfl) (by kernel_rfl) (by kernel_rfl) (fun _ _ _ h => h) (Or.inl ⟨by rfl, by (intro wq hSw; go_simp)⟩) HQ.out.r.b ?_
            simp only [Act.put, List.setIfInBounds_toArray, List.set_cons_succ, List.set_cons_zero]
            refine wpAnyH_ready (rs := [12]) (by kernel_rfl) (by simp) (AllReadyH.cons (o := ⟨some 14, .alloc 39, _, _, _, none⟩) rfl (fun K hK => ?_) AllReadyH.nil)
            · go_simp
              have HN := Lib.hid HQ.out.al2
              refine hK.out _ _ HN.out.r.b (fun _ => ?_)
              clear hK K HQ
              try simp only [Act.put, List.setIfInBounds_toArray, List.set_cons_succ, List.set_cons_zero]
              obtain ⟨Y, hY⟩ : ∃ Y, Y = v8.heap.size := ⟨_, rfl⟩
              rw [← hY] at HN
              rw [← hY]
              generalize v8.alloc (.cells #[.string ⟨#[]⟩, .int .u64 0, .int .u64 0, .int .u64 0, .int .u64 0] 39) = v9 at *
              have HQ := Lib.hid HN.out
              clear HN hY
              obtain ⟨_, hx⟩ := HQ.out.r.z1 X rfl
              have x0 := (lit_cell hx 0).trans rfl
              have e0 := lit_free hx 0
              have x1 := (lit_cell hx 1).trans rfl
              have e1 := lit_free hx 1
              have x2 := (lit_cell hx 2).trans rfl
              have e2 := lit_free hx 2
              clear hx
              refine wpAnyH_ready (rs := [13]) (by kernel_rfl) (by simp) (AllReadyH.cons (o := ⟨none, .store 48 (.tmp 13) (.tmp 84), _, _, _, none⟩) rfl (fun K hK => ?_) AllReadyH.nil)
              go_simp
              have hmid := HQ.out.mid (.int .u64 (i' : Int)) (.slice wo' W'.length kw') (.slice po' P'.length kp')
              refine hK.out _ _ hmid.2 (fun _ => ?_)
              clear hK K x0 x1 x2 e0 e1 e2
              try simp only [Act.put, List.setIfInBounds_toArray, List.set_cons_succ, List.set_cons_zero]
              have y0 := (lit_cell hmid.1 0).trans rfl
              have z0 := lit_free hmid.1 0
              have y1 := (lit_cell hmid.1 1).trans rfl
              have z1 := lit_free hmid.1 1
              have y2 := (lit_cell hmid.1 2).trans rfl
              have z2 := lit_free hmid.1 2
              have y3 := (lit_cell hmid.1 3).trans rfl
              have z3 := lit_free hmid.1 3
              have y4 := (lit_cell hmid.1 4).trans rfl
              have z4 := lit_free hmid.1 4
              clear hmid
              refine wpAnyH_ready (rs := [14]) (by kernel_rfl) (by simp) (AllReadyH.cons (o := ⟨none, .store 39 (.tmp 14) (.tmp 85), _, _, _, none⟩) rfl (fun K hK => ?_) AllReadyH.nil)
              go_simp
              have hend := HQ.out.end (wt := wt2)
              refine hK.out _ _ hend.b (fun _ => ?_)
              have HE := Lib.hid hend
              clear hK K hend y0 y1 y2 y3 y4 z0 z1 z2 z3 z4
              try simp only [Act.put, List.setIfInBounds_toArray, List.set_cons_succ, List.set_cons_zero]
              refine wpAnyH_done (by kernel_rfl) ?_ _
              go_wp2_with (fail)
              go_meet
              exact ⟨X, Y, ⟨i', f', l', n', W', P', wo', po', kw', kp', root'⟩, rfl, rfl, HE⟩
          · go_simp
            have HN := Lib.hid HR.out.al2
            refine hK.out _ _ HN.out.b (fun _ => ?_)
            clear hK K HR
            try simp only [Act.put, List.setIfInBounds_toArray, List.set_cons_succ, List.set_cons_zero]
            obtain ⟨Y, hY⟩ : ∃ Y, Y = v7.heap.size := ⟨_, rfl⟩
            rw [← hY] at HN
            rw [← hY]
            generalize v7.alloc (.cells #[.string ⟨#[]⟩, .int .u64 0, .int .u64 0, .int .u64 0, .int .u64 0] 39) = v10 at *
            have HR := Lib.hid HN.out
            clear HN hY
            refine wpAnyH_ready (rs := [7]) (by kernel_rfl) (by simp) (AllReadyH.cons (o := ⟨some 83, .call { callee := .value (.func 23), args := #[.tmp 76, .tmp 81, .tmp 82], argTypes := _ }, _, _, _, none⟩) rfl (fun K hK => ?_) AllReadyH.nil)
            · go_simp
              refine (HSP.out wo po kc kd _ (HU.out.next HR.out.b).hw (HU.out.next HR.out.b).hp).mono ?_
              rintro e v11 hsp
              obtain ⟨⟨i', f', l', n', W', P', wo', po', kw', kp', root'⟩, rfl, hok, hb1⟩ := hsp
              have HQ := Lib.hid (HR.out.spoilt hb1 hok)
              refine hK.out _ _ HQ.out.r.b (fun _ => ?_)
              clear hK K HR hb1 hok
              try dsimp only
              refine wpAnyH_take (i := 8) (oi := ⟨some 75, .move (.tmp 83), _, _, _, none⟩) (v := .tuple #[.agg #[.int .u64 (i' : Int), .slice wo' W'.length kw', .slice po' P'.length kp'], .agg #[.string ⟨root'.toArray⟩, .int .u64 (wt2 : Int), .int .u64 (f' : Int), .int .u64 (l' : Int), .int .u64 (n' : Int)]]) rfl (by kernel_rfl) (by kernel_rfl) (by kernel_rfl) (fun _ _ _ h => h) (Or.inl ⟨by rfl, by (intro wq hSw; go_simp)⟩) HQ.out.r.b ?_
              simp only [Act.put, List.setIfInBounds_toArray, List.set_cons_succ, List.set_cons_zero]
              refine wpAnyH_take (i := 9) (oi := ⟨some 84, .extract (.tmp 75) 0, _, _, _, none⟩) (v := .agg #[.int .u64 (i' : Int), .slice wo' W'.length kw', .slice po' P'.length kp']) rfl (by kernel_rfl) (by kernel_rfl) (by kernel_rfl) (fun _ _ _ h => h) (Or.inl ⟨by rfl, by (intro wq hSw; go_simp)⟩) HQ.out.r.b ?_
              simp only [Act.put, List.setIfInBounds_toArray, List.set_cons_succ, List.set_cons_zero]
              refine wpAnyH_take (i := 10) (oi := ⟨some 85, .extract (.tmp 75) 1, _, _, _, none⟩) (v := .agg #[.string ⟨root'.toArray⟩, .int .u64 (wt2 : Int), .int .u64 (f' : Int), .int .u64 (l' : Int), .int .u64 (n' : Int)]) rfl (by kernel_rfl) (by kernel_rfl) (by kernel_rfl) (fun _ _ _ h => h) (Or.inl ⟨by rfl, by (intro wq hSw; go_simp)⟩) HQ.out.r.b ?_
              simp only [Act.put, List.setIfInBounds_toArray, List.set_cons_succ, List.set_cons_zero]
              obtain ⟨_, hx⟩ := HQ.out.r.z1 X rfl
              have x0 := (lit_cell hx 0).trans rfl
              have e0 := lit_free hx 0
              have x1 := (lit_cell hx 1).trans rfl
              have e1 := lit_free hx 1
              have x2 := (lit_cell hx 2).trans rfl
              have e2 := lit_free hx 2
              clear hx
              refine wpAnyH_ready (rs := [13]) (by kernel_rfl) (by simp) (AllReadyH.cons (o := ⟨none, .store 48 (.tmp 13) (.tmp 84), _, _, _, none⟩) rfl (fun K hK => ?_) AllReadyH.nil)
              go_simp
              have hmid := HQ.out.mid (.int .u64 (i' : Int)) (.slice wo' W'.length kw') (.slice po' P'.length kp')
              refine hK.out _ _ hmid.2 (fun _ => ?_)
              clear hK K x0 x1 x2 e0 e1 e2
              try simp only [Act.put, List.setIfInBounds_toArray, List.set_cons_succ, List.set_cons_zero]
              have y0 := (lit_cell hmid.1 0).trans rfl
              have z0 := lit_free hmid.1 0
              have y1 := (lit_cell hmid.1 1).trans rfl
              have z1 := lit_free hmid.1 1
              have y2 := (lit_cell hmid.1 2).trans rfl
              have z2 := lit_free hmid.1 2
              have y3 := (lit_cell hmid.1 3).trans rfl
              have z3 := lit_free hmid.1 3
              have y4 := (lit_cell hmid.1 4).trans rfl
              have z4 := lit_free hmid.1 4
              clear hmid
              refine wpAnyH_ready (rs := [14]) (by kernel_rfl) (by simp) (AllReadyH.cons (o := ⟨none, .store 39 (.tmp 14) (.tmp 85), _, _, _, none⟩) rfl (fun K hK => ?_) AllReadyH.nil)
              go_simp
              have hend := HQ.out.end (wt := wt2)
              refine hK.out _ _ hend.b (fun _ => ?_)
              have HE := Lib.hid hend
              clear hK K hend y0 y1 y2 y3 y4 z0 z1 z2 z3 z4
              try simp only [Act.put, List.setIfInBounds_toArray, List.set_cons_succ, List.set_cons_zero]
              refine wpAnyH_done (by kernel_rfl) ?_ _
              go_wp2_with (fail)
              go_meet
              exact ⟨X, Y, ⟨i', f', l', n', W', P', wo', po', kw', kp', root'⟩, rfl, rfl, HE⟩
        · go_simp
          have HN := Lib.hid HR.out.al2
          refine hK.out _ _ HN.out.b (fun _ => ?_)
          clear hK K HR
          try simp only [Act.put, List.setIfInBounds_toArray, List.set_cons_succ, List.set_cons_zero]
          obtain ⟨Y, hY⟩ : ∃ Y, Y = v1.heap.size := ⟨_, rfl⟩
          rw [← hY] at HN
          rw [← hY]
          generalize v1.alloc (.cells #[.string ⟨#[]⟩, .int .u64 0, .int .u64 0, .int .u64 0, .int .u64 0] 39) = v12 at *
          have HR := Lib.hid HN.out
          clear HN hY
          refine wpAnyH_ready (rs := [7, 11]) (by kernel_rfl) (by simp) (AllReadyH.cons (o := ⟨some 83, .call { callee := .value (.func 23), args := #[.tmp 76, .tmp 81, .tmp 82], argTypes := _ }, _, _, _, none⟩) rfl (fun K hK => ?_) (AllReadyH.cons (o := ⟨some 13, .alloc 48, _, _, _, none⟩) rfl (fun K hK => ?_) AllReadyH.nil))
          · go_simp
            refine (HSP.out wo po kc kd _ (HU.out.next HR.out.b).hw (HU.out.next HR.out.b).hp).mono ?_
            rintro e v13 hsp
            obtain ⟨⟨i', f', l', n', W', P', wo', po', kw', kp', root'⟩, rfl, hok, hb1⟩ := hsp
            have HQ := Lib.hid (HR.out.spoilt hb1 hok)
            refine hK.out _ _ HQ.out.r.b (fun _ => ?_)
            clear hK K HR hb1 hok
            try dsimp only
            refine wpAnyH_take (i := 8) (oi := ⟨some 75, .move (.tmp 83), _, _, _, none⟩) (v := .tuple #[.agg #[.int .u64 (i' : Int), .slice wo' W'.length kw', .slice po' P'.length kp'], .agg #[.string ⟨root'.toArray⟩, .int .u64 (wt2 : Int), .int .u64 (f' : Int), .int .u64 (l' : Int), .int .u64 (n' : Int)]]) rfl (by kernel_rfl) (by kernel_rfl) (by kernel_rfl) (fun _ _ _ h => h) (Or.inl ⟨by rfl, by (intro wq hSw; go_simp)⟩) HQ.out.r.b ?_
            simp only [Act.put, List.setIfInBounds_toArray, List.set_cons_succ, List.set_cons_zero]
            refine wpAnyH_take (i := 9) (oi := ⟨some 84, .extract (.tmp 75) 0, _, _, _, none⟩) (v := .agg #[.int .u64 (i' : Int), .slice wo' W'.length kw', .slice po' P'.length kp']) rfl (by kernel_rfl) (by kernel_rfl) (by kernel_rfl) (fun _ _ _ h => h) (Or.inl ⟨by rfl, by (intro wq hSw; go_simp)⟩) HQ.out.r.b ?_
            simp only [Act.put, List.setIfInBounds_toArray, List.set_cons_succ, List.set_cons_zero]
            refine wpAnyH_take (i := 10) (oi := ⟨some 85, .extract (.tmp 75) 1, _, _, _, none⟩) (v := .agg #[.string ⟨root'.toArray⟩, .int .u64 (wt2 : Int), .int .u64 (f' : Int), .int .u64 (l' : Int), .int .u64 (n' : Int)]) rfl (by kernel_rfl) (by kernel_rfl) (by kernel_rfl) (fun _ _ _ h => h) (Or.inl ⟨by rfl, by (intro wq hSw; go_simp)⟩) HQ.out.r.b ?_
            simp only [Act.put, List.setIfInBounds_toArray, List.set_cons_succ, List.set_cons_zero]
            refine wpAnyH_ready (rs := [11]) (by kernel_rfl) (by simp) (AllReadyH.cons (o := ⟨some 13, .alloc 48, _, _, _, none⟩) rfl (fun K hK => ?_) AllReadyH.nil)
            · go_simp
              have HN := Lib.hid HQ.out.al1
              refine hK.out _ _ HN.out.r.b (fun _ => ?_)
              clear hK K HQ
              try simp only [Act.put, List.setIfInBounds_toArray, List.set_cons_succ, List.set_cons_zero]
              obtain ⟨X, hX⟩ : ∃ X, X = v13.heap.size := ⟨_, rfl⟩
              rw [← hX] at HN
              rw [← hX]
              generalize v13.alloc (.cells #[.int .u64 0, .slice none 0 0, .slice none 0 0] 48) = v14 at *
              have HQ := Lib.hid HN.out
              clear HN hX
              obtain ⟨_, hx⟩ := HQ.out.r.z1 X rfl
              have x0 := (lit_cell hx 0).trans rfl
              have e0 := lit_free hx 0
              have x1 := (lit_cell hx 1).trans rfl
              have e1 := lit_free hx 1
              have x2 := (lit_cell hx 2).trans rfl
              have e2 := lit_free hx 2
              clear hx
              refine wpAnyH_ready (rs := [13]) (by kernel_rfl) (by simp) (AllReadyH.cons (o := ⟨none, .store 48 (.tmp 13) (.tmp 84), _, _, _, none⟩) rfl (fun K hK => ?_) AllReadyH.nil)
              go_simp
              have hmid := HQ.out.mid (.int .u64 (i' : Int)) (.slice wo' W'.length kw') (.slice po' P'.length kp')
              refine hK.out _ _ hmid.2 (fun _ => ?_)
              clear hK K x0 x1 x2 e0 e1 e2
              try simp only [Act.put, List.setIfInBounds_toArray, List.set_cons_succ, List.set_cons_zero]
              have y0 := (lit_cell hmid.1 0).trans rfl
              have z0 := lit_free hmid.1 0
              have y1 := (lit_cell hmid.1 1).trans rfl
              have z1 := lit_free hmid.1 1
              have y2 := (lit_cell hmid.1 2).trans rfl
              have z2 := lit_free hmid.1 2
              have y3 := (lit_cell hmid.1 3).trans rfl
              have z3 := lit_free hmid.1 3
              have y4 := (lit_cell hmid.1 4).trans rfl
              have z4 := lit_free hmid.1 4
              clear hmid
              refine wpAnyH_ready (rs := [14]) (by kernel_rfl) (by simp) (AllReadyH.cons (o := ⟨none, .store 39 (.tmp 14) (.tmp 85), _, _, _, none⟩) rfl (fun K hK => ?_) AllReadyH.nil)
              go_simp
              have hend := HQ.out.end (wt := wt2)
              refine hK.out _ _ hend.b (fun _ => ?_)
              have HE := Lib.hid hend
              clear hK K hend y0 y1 y2 y3 y4 z0 z1 z2 z3 z4
              try simp only [Act.put, List.setIfInBounds_toArray, List.set_cons_succ, List.set_cons_zero]
              refine wpAnyH_done (by kernel_rfl) ?_ _
              go_wp2_with (fail)
              go_meet
              exact ⟨X, Y, ⟨i', f', l', n', W', P', wo', po', kw', kp', root'⟩, rfl, rfl, HE⟩
          · go_simp
            have HN := Lib.hid HR.out.al1
            refine hK.out _ _ HN.out.b (fun _ => ?_)
            clear hK K HR
            try simp only [Act.put, List.setIfInBounds_toArray, List.set_cons_succ, List.set_cons_zero]
            obtain ⟨X, hX⟩ : ∃ X, X = v12.heap.size := ⟨_, rfl⟩
            rw [← hX] at HN
            rw [← hX]
            generalize v12.alloc (.cells #[.int .u64 0, .slice none 0 0, .slice none 0 0] 48) = v15 at *
            have HR := Lib.hid HN.out
            clear HN hX
            refine wpAnyH_ready (rs := [7]) (by kernel_rfl) (by simp) (AllReadyH.cons (o := ⟨some 83, .call { callee := .value (.func 23), args := #[.tmp 76, .tmp 81, .tmp 82], argTypes := _ }, _, _, _, none⟩) rfl (fun K hK => ?_) AllReadyH.nil)
            · go_simp
              refine (HSP.out wo po kc kd _ (HU.out.next HR.out.b).hw (HU.out.next HR.out.b).hp).mono ?_
              rintro e v16 hsp
              obtain ⟨⟨i', f', l', n', W', P', wo', po', kw', kp', root'⟩, rfl, hok, hb1⟩ := hsp
              have HQ := Lib.hid (HR.out.spoilt hb1 hok)
              refine hK.out _ _ HQ.out.r.b (fun _ => ?_)
              clear hK K HR hb1 hok
              try dsimp only
              refine wpAnyH_take (i := 8) (oi := ⟨some 75, .move (.tmp 83), _, _, _, none⟩) (v := .tuple #[.agg #[.int .u64 (i' : Int), .slice wo' W'.length kw', .slice po' P'.length kp'], .agg #[.string ⟨root'.toArray⟩, .int .u64 (wt2 : Int), .int .u64 (f' : Int), .int .u64 (l' : Int), .int .u64 (n' : Int)]]) rfl (by kernel_rfl) (by kernel_rfl) (by kernel_rfl) (fun _ _ _ h => h) (Or.inl ⟨by rfl, by (intro wq hSw; go_simp)⟩) HQ.out.r.b ?_
              simp only [Act.put, List.setIfInBounds_toArray, List.set_cons_succ, List.set_cons_zero]
              refine wpAnyH_take (i := 9) (oi := ⟨some 84, .extract (.tmp 75) 0, _, _, _, none⟩) (v := .agg #[.int .u64 (i' : Int), .slice wo' W'.length kw', .slice po' P'.length kp']) rfl (by kernel_rfl) (by kernel_rfl) (by kernel_rfl) (fun _ _ _ h => h) (Or.inl ⟨by rfl, by (intro wq hSw; go_simp)⟩) HQ.out.r.b ?_
              simp only [Act.put, List.setIfInBounds_toArray, List.set_cons_succ, List.set_cons_zero]
              refine wpAnyH_take (i := 10) (oi := ⟨some 85, .extract (.tmp 75) 1, _, _, _, none⟩) (v := .agg #[.string ⟨root'.toArray⟩, .int .u64 (wt2 : Int), .int .u64 (f' : Int), .int .u64 (l' : Int), .int .u64 (n' : Int)]) rfl (by kernel_rfl) (by kernel_rfl) (by kernel_rfl) (fun _ _ _ h => h) (Or.inl ⟨by rfl, by (intro wq hSw; go_simp)⟩) HQ.out.r.b ?_
              simp only [Act.put, List.setIfInBounds_toArray, List.set_cons_succ, List.set_cons_zero]
              obtain ⟨_, hx⟩ := HQ.out.r.z1 X rfl
              have x0 := (lit_cell hx 0).trans rfl
              have e0 := lit_free hx 0
              have x1 := (lit_cell hx 1).trans rfl
              have e1 := lit_free hx 1
              have x2 := (lit_cell hx 2).trans rfl
              have e2 := lit_free hx 2
              clear hx
              refine wpAnyH_ready (rs := [13]) (by kernel_rfl) (by simp) (AllReadyH.cons (o := ⟨none, .store 48 (.tmp 13) (.tmp 84), _, _, _, none⟩) rfl (fun K hK => ?_) AllReadyH.nil)
              go_simp
              have hmid := HQ.out.mid (.int .u64 (i' : Int)) (.slice wo' W'.length kw') (.slice po' P'.length kp')
              refine hK.out _ _ hmid.2 (fun _ => ?_)
              clear hK K x0 x1 x2 e0 e1 e2
              try simp only [Act.put, List.setIfInBounds_toArray, List.set_cons_succ, List.set_cons_zero]
              have y0 := (lit_cell hmid.1 0).trans rfl
              have z0 := lit_free hmid.1 0
              have y1 := (lit_cell hmid.1 1).trans rfl
              have z1 := lit_free hmid.1 1
              have y2 := (lit_cell hmid.1 2).trans rfl
              have z2 := lit_free hmid.1 2
              have y3 := (lit_cell hmid.1 3).trans rfl
              have z3 := lit_free hmid.1 3
              have y4 := (lit_cell hmid.1 4).trans rfl
              have z4 := lit_free hmid.1 4
              clear hmid
              refine wpAnyH_ready (rs := [14]) (by kernel_rfl) (by simp) (AllReadyH.cons (o := ⟨none, .store 39 (.tmp 14) (.tmp 85), _, _, _, none⟩) rfl (fun K hK => ?_) AllReadyH.nil)
              go_simp
              have hend := HQ.out.end (wt := wt2)
              refine hK.out _ _ hend.b (fun _ => ?_)
              have HE := Lib.hid hend
              clear hK K hend y0 y1 y2 y3 y4 z0 z1 z2 z3 z4
              try simp only [Act.put, List.setIfInBounds_toArray, List.set_cons_succ, List.set_cons_zero]
              refine wpAnyH_done (by kernel_rfl) ?_ _
              go_wp2_with (fail)
              go_meet
              exact ⟨X, Y, ⟨i', f', l', n', W', P', wo', po', kw', kp', root'⟩, rfl, rfl, HE⟩
      · go_simp
        have HN := Lib.hid HR.out.al1
        refine hK.out _ _ HN.out.b (fun _ => ?_)
        clear hK K HR
        try simp only [Act.put, List.setIfInBounds_toArray, List.set_cons_succ, List.set_cons_zero]
        obtain ⟨X, hX⟩ : ∃ X, X = v0.heap.size := ⟨_, rfl⟩
        rw [← hX] at HN
        rw [← hX]
        generalize v0.alloc (.cells #[.int .u64 0, .slice none 0 0, .slice none 0 0] 48) = v17 at *
        have HR := Lib.hid HN.out
        clear HN hX
        refine wpAnyH_ready (rs := [5, 12]) (by kernel_rfl) (by simp) (AllReadyH.cons (o := ⟨some 81, .call { callee := .value (.func 17), args := #[.tmp 77, .tmp 80], argTypes := _ }, _, _, _, none⟩) rfl (fun K hK => ?_) (AllReadyH.cons (o := ⟨some 14, .alloc 39, _, _, _, none⟩) rfl (fun K hK => ?_) AllReadyH.nil))
        · go_simp
          refine (HPA.out b _ (HU.out.next HR.out.b).l).mono ?_
          rintro e v18 ⟨rfl, hb1⟩
          have HN := Lib.hid (HR.out.next hb1)
          refine hK.out _ _ HN.out.b (fun _ => ?_)
          clear hK K HR hb1
          try simp only [Act.put, List.setIfInBounds_toArray, List.set_cons_succ, List.set_cons_zero]
          have HR := Lib.hid HN.out
          clear HN
          refine wpAnyH_ready (rs := [7, 12]) (by kernel_rfl) (by simp) (AllReadyH.cons (o := ⟨some 83, .call { callee := .value (.func 23), args := #[.tmp 76, .tmp 81, .tmp 82], argTypes := _ }, _, _, _, none⟩) rfl (fun K hK => ?_) (AllReadyH.cons (o := ⟨some 14, .alloc 39, _, _, _, none⟩) rfl (fun K hK => ?_) AllReadyH.nil))
          · go_simp
            refine (HSP.out wo po kc kd _ (HU.out.next HR.out.b).hw (HU.out.next HR.out.b).hp).mono ?_
            rintro e v19 hsp
            obtain ⟨⟨i', f', l', n', W', P', wo', po', kw', kp', root'⟩, rfl, hok, hb1⟩ := hsp
            have HQ := Lib.hid (HR.out.spoilt hb1 hok)
            refine hK.out _ _ HQ.out.r.b (fun _ => ?_)
            clear hK K HR hb1 hok
            try dsimp only
            refine wpAnyH_take (i := 8) (oi := ⟨some 75, .move (.tmp 83), _, _, _, none⟩) (v := .tuple #[.agg #[.int .u64 (i' : Int), .slice wo' W'.length kw', .slice po' P'.length kp'], .agg #[.string ⟨root'.toArray⟩, .int .u64 (wt2 : Int), .int .u64 (f' : Int), .int .u64 (l' : Int), .int .u64 (n' : Int)]]) rfl (by kernel_rfl) (by kernel_rfl) (by kernel_rfl) (fun _ _ _ h => h) (Or.inl ⟨by rfl, by (intro wq hSw; go_simp)⟩) HQ.out.r.b ?_
            simp only [Act.put, List.setIfInBounds_toArray, List.set_cons_succ, List.set_cons_zero]
            refine wpAnyH_take (i := 9) (oi := ⟨some 84, .extract (.tmp 75) 0, _, _, _, none⟩) (v := .agg #[.int .u64 (i' : Int), .slice wo' W'.length kw', .slice po' P'.length kp']) rfl (by kernel_rfl) (by kernel_rfl) (by kernel_rfl) (fun _ _ _ h => h) (Or.inl ⟨by rfl, by (intro wq hSw; go_simp)⟩) HQ.out.r.b ?_
            simp only [Act.put, List.setIfInBounds_toArray, List.set_cons_succ, List.set_cons_zero]
            refine wpAnyH_take (i := 10) (oi := ⟨some 85, .extract (.tmp 75) 1, _, _, _, none⟩) (v := .agg #[.string ⟨root'.toArray⟩, .int .u64 (wt2 : Int), .int .u64 (f' : Int), .int .u64 (l' : Int), .int .u64 (n' : Int)]) rfl (by kernel_rfl) (by kernel_rfl) (by kernel_rfl) (fun _ _ _ h => h) (Or.inl ⟨by rfl, by (intro wq hSw; go_simp)⟩) HQ.out.r.b ?_
            simp only [Act.put, List.setIfInBounds_toArray, List.set_cons_succ, List.set_cons_zero]
            refine wpAnyH_ready (rs := [12]) (by kernel_rfl) (by simp) (AllReadyH.cons (o := ⟨some 14, .alloc 39, _, _, _, none⟩) rfl (fun K hK => ?_) AllReadyH.nil)
            · go_simp
              have HN := Lib.hid HQ.out.al2
              refine hK.out _ _ HN.out.r.b (fun _ => ?_)
              clear hK K HQ
              try simp only [Act.put, List.setIfInBounds_toArray, List.set_cons_succ, List.set_cons_zero]
              obtain ⟨Y, hY⟩ : ∃ Y, Y = v19.heap.size := ⟨_, rfl⟩
              rw [← hY] at HN
              rw [← hY]
              generalize v19.alloc (.cells #[.string ⟨#[]⟩, .int .u64 0, .int .u64 0, .int .u64 0, .int .u64 0] 39) = v20 at *
              have HQ := Lib.hid HN.out
              clear HN hY
              obtain ⟨_, hx⟩ := HQ.out.r.z1 X rfl
              have x0 := (lit_cell hx 0).trans rfl
              have e0 := lit_free hx 0
              have x1 := (lit_cell hx 1).trans rfl
              have e1 := lit_free hx 1
              have x2 := (lit_cell hx 2).trans rfl
              have e2 := lit_free hx 2
              clear hx
              refine wpAnyH_ready (rs := [13]) (by kernel_rfl) (by simp) (AllReadyH.cons (o := ⟨none, .store 48 (.tmp 13) (.tmp 84), _, _, _, none⟩) rfl (fun K hK => ?_) AllReadyH.nil)
              go_simp
              have hmid := HQ.out.mid (.int .u64 (i' : Int)) (.slice wo' W'.length kw') (.slice po' P'.length kp')
              refine hK.out _ _ hmid.2 (fun _ => ?_)
              clear hK K x0 x1 x2 e0 e1 e2
              try simp only [Act.put, List.setIfInBounds_toArray, List.set_cons_succ, List.set_cons_zero]
              have y0 := (lit_cell hmid.1 0).trans rfl
              have z0 := lit_free hmid.1 0
              have y1 := (lit_cell hmid.1 1).trans rfl
              have z1 := lit_free hmid.1 1
              have y2 := (lit_cell hmid.1 2).trans rfl
              have z2 := lit_free hmid.1 2
              have y3 := (lit_cell hmid.1 3).trans rfl
              have z3 := lit_free hmid.1 3
              have y4 := (lit_cell hmid.1 4).trans rfl
              have z4 := lit_free hmid.1 4
              clear hmid
              refine wpAnyH_ready (rs := [14]) (by kernel_rfl) (by simp) (AllReadyH.cons (o := ⟨none, .store 39 (.tmp 14) (.tmp 85), _, _, _, none⟩) rfl (fun K hK => ?_) AllReadyH.nil)
              go_simp
              have hend := HQ.out.end (wt := wt2)
              refine hK.out _ _ hend.b (fun _ => ?_)
              have HE := Lib.hid hend
              clear hK K hend y0 y1 y2 y3 y4 z0 z1 z2 z3 z4
              try simp only [Act.put, List.setIfInBounds_toArray, List.set_cons_succ, List.set_cons_zero]
              refine wpAnyH_done (by kernel_rfl) ?_ _
              go_wp2_with (fail)
              go_meet
              exact ⟨X, Y, ⟨i', f', l', n', W', P', wo', po', kw', kp', root'⟩, rfl, rfl, HE⟩
          · go_simp
            have HN := Lib.hid HR.out.al2
            refine hK.out _ _ HN.out.b (fun _ => ?_)
            clear hK K HR
            try simp only [Act.put, List.setIfInBounds_toArray, List.set_cons_succ, List.set_cons_zero]
            obtain ⟨Y, hY⟩ : ∃ Y, Y = v18.heap.size := ⟨_, rfl⟩
            rw [← hY] at HN
            rw [← hY]
            generalize v18.alloc (.cells #[.string ⟨#[]⟩, .int .u64 0, .int .u64 0, .int .u64 0, .int .u64 0] 39) = v21 at *
            have HR := Lib.hid HN.out
            clear HN hY
            refine wpAnyH_ready (rs := [7]) (by kernel_rfl) (by simp) (AllReadyH.cons (o := ⟨some 83, .call { callee := .value (.func 23), args := #[.tmp 76, .tmp 81, .tmp 82], argTypes := _ }, _, _, _, none⟩) rfl (fun K hK => ?_) AllReadyH.nil)
            · go_simp
              refine (HSP.out wo po kc kd _ (HU.out.next HR.out.b).hw (HU.out.next HR.out.b).hp).mono ?_
              rintro e v22 hsp
              obtain ⟨⟨i', f', l', n', W', P', wo', po', kw', kp', root'⟩, rfl, hok, hb1⟩ := hsp
              have HQ := Lib.hid (HR.out.spoilt hb1 hok)
              refine hK.out _ _ HQ.out.r.b (fun _ => ?_)
              clear hK K HR hb1 hok
              try dsimp only
              refine wpAnyH_take (i := 8) (oi := ⟨some 75, .move (.tmp 83), _, _, _, none⟩) (v := .tuple #[.agg #[.int .u64 (i' : Int), .slice wo' W'.length kw', .slice po' P'.length kp'], .agg #[.string ⟨root'.toArray⟩, .int .u64 (wt2 : Int), .int .u64 (f' : Int), .int .u64 (l' : Int), .int .u64 (n' : Int)]]) rfl (by kernel_rfl) (by kernel_rfl) (by kernel_rfl) (fun _ _ _ h => h) (Or.inl ⟨by rfl, by (intro wq hSw; go_simp)⟩) HQ.out.r.b ?_
              simp only [Act.put, List.setIfInBounds_toArray, List.set_cons_succ, List.set_cons_zero]
              refine wpAnyH_take (i := 9) (oi := ⟨some 84, .extract (.tmp 75) 0, _, _, _, none⟩) (v := .agg #[.int .u64 (i' : Int), .slice wo' W'.length kw', .slice po' P'.length kp']) rfl (by kernel_rfl) (by kernel_rfl) (by kernel_rfl) (fun _ _ _ h => h) (Or.inl ⟨by rfl, by (intro wq hSw; go_simp)⟩) HQ.out.r.b ?_
              simp only [Act.put, List.setIfInBounds_toArray, List.set_cons_succ, List.set_cons_zero]
              refine wpAnyH_take (i := 10) (oi := ⟨some 85, .extract (.tmp 75) 1, _, _, _, none⟩) (v := .agg #[.string ⟨root'.toArray⟩, .int .u64 (wt2 : Int), .int .u64 (f' : Int), .int .u64 (l' : Int), .int .u64 (n' : Int)]) rfl (by kernel_rfl) (by kernel_rfl) (by kernel_rfl) (fun _ _ _ h => h) (Or.inl ⟨by rfl, by (intro wq hSw; go_simp)⟩) HQ.out.r.b ?_
              simp only [Act.put, List.setIfInBounds_toArray, List.set_cons_succ, List.set_cons_zero]
              obtain ⟨_, hx⟩ := HQ.out.r.z1 X rfl
              have x0 := (lit_cell hx 0).trans rfl
              have e0 := lit_free hx 0
              have x1 := (lit_cell hx 1).trans rfl
              have e1 := lit_free hx 1
              have x2 := (lit_cell hx 2).trans rfl
              have e2 := lit_free hx 2
              clear hx
              refine wpAnyH_ready (rs := [13]) (by kernel_rfl) (by simp) (AllReadyH.cons (o := ⟨none, .store 48 (.tmp 13) (.tmp 84), _, _, _, none⟩) rfl (fun K hK => ?_) AllReadyH.nil)
              go_simp
              have hmid := HQ.out.mid (.int .u64 (i' : Int)) (.slice wo' W'.length kw') (.slice po' P'.length kp')
              refine hK.out _ _ hmid.2 (fun _ => ?_)
              clear hK K x0 x1 x2 e0 e1 e2
              try simp only [Act.put, List.setIfInBounds_toArray, List.set_cons_succ, List.set_cons_zero]
              have y0 := (lit_cell hmid.1 0).trans rfl
              have z0 := lit_free hmid.1 0
              have y1 := (lit_cell hmid.1 1).trans rfl
              have z1 := lit_free hmid.1 1
              have y2 := (lit_cell hmid.1 2).trans rfl
              have z2 := lit_free hmid.1 2
              have y3 := (lit_cell hmid.1 3).trans rfl
              have z3 := lit_free hmid.1 3
              have y4 := (lit_cell hmid.1 4).trans rfl
              have z4 := lit_free hmid.1 4
              clear hmid
              refine wpAnyH_ready (rs := [14]) (by kernel_rfl) (by simp) (AllReadyH.cons (o := ⟨none, .store 39 (.tmp 14) (.tmp 85), _, _, _, none⟩) rfl (fun K hK => ?_) AllReadyH.nil)
              go_simp
              have hend := HQ.out.end (wt := wt2)
              refine hK.out _ _ hend.b (fun _ => ?_)
              have HE := Lib.hid hend
              clear hK K hend y0 y1 y2 y3 y4 z0 z1 z2 z3 z4
              try simp only [Act.put, List.setIfInBounds_toArray, List.set_cons_succ, List.set_cons_zero]
              refine wpAnyH_done (by kernel_rfl) ?_ _
              go_wp2_with (fail)
              go_meet
              exact ⟨X, Y, ⟨i', f', l', n', W', P', wo', po', kw', kp', root'⟩, rfl, rfl, HE⟩
        · go_simp
          have HN := Lib.hid HR.out.al2
          refine hK.out _ _ HN.out.b (fun _ => ?_)
          clear hK K HR
          try simp only [Act.put, List.setIfInBounds_toArray, List.set_cons_succ, List.set_cons_zero]
          obtain ⟨Y, hY⟩ : ∃ Y, Y = v17.heap.size := ⟨_, rfl⟩
          rw [← hY] at HN
          rw [← hY]
          generalize v17.alloc (.cells #[.string ⟨#[]⟩, .int .u64 0, .int .u64 0, .int .u64 0, .int .u64 0] 39) = v23 at *
          have HR := Lib.hid HN.out
          clear HN hY
          refine wpAnyH_ready (rs := [5]) (by kernel_rfl) (by simp) (AllReadyH.cons (o := ⟨some 81, .call { callee := .value (.func 17), args := #[.tmp 77, .tmp 80], argTypes := _ }, _, _, _, none⟩) rfl (fun K hK => ?_) AllReadyH.nil)
          · go_simp
            refine (HPA.out b _ (HU.out.next HR.out.b).l).mono ?_
            rintro e v24 ⟨rfl, hb1⟩
            have HN := Lib.hid (HR.out.next hb1)
            refine hK.out _ _ HN.out.b (fun _ => ?_)
            clear hK K HR hb1
            try simp only [Act.put, List.setIfInBounds_toArray, List.set_cons_succ, List.set_cons_zero]
            have HR := Lib.hid HN.out
            clear HN
            refine wpAnyH_ready (rs := [7]) (by kernel_rfl) (by simp) (AllReadyH.cons (o := ⟨some 83, .call { callee := .value (.func 23), args := #[.tmp 76, .tmp 81, .tmp 82], argTypes := _ }, _, _, _, none⟩) rfl (fun K hK => ?_) AllReadyH.nil)
            · go_simp
              refine (HSP.out wo po kc kd _ (HU.out.next HR.out.b).hw (HU.out.next HR.out.b).hp).mono ?_
              rintro e v25 hsp
              obtain ⟨⟨i', f', l', n', W', P', wo', po', kw', kp', root'⟩, rfl, hok, hb1⟩ := hsp
              have HQ := Lib.hid (HR.out.spoilt hb1 hok)
              refine hK.out _ _ HQ.out.r.b (fun _ => ?_)
              clear hK K HR hb1 hok
              try dsimp only
              refine wpAnyH_take (i := 8) (oi := ⟨some 75, .move (.tmp 83), _, _, _, none⟩) (v := .tuple #[.agg #[.int .u64 (i' : Int), .slice wo' W'.length kw', .slice po' P'.length kp'], .agg #[.string ⟨root'.toArray⟩, .int .u64 (wt2 : Int), .int .u64 (f' : Int), .int .u64 (l' : Int), .int .u64 (n' : Int)]]) rfl (by kernel_rfl) (by kernel_rfl) (by kernel_rfl) (fun _ _ _ h => h) (Or.inl ⟨by rfl, by (intro wq hSw; go_simp)⟩) HQ.out.r.b ?_
              simp only [Act.put, List.setIfInBounds_toArray, List.set_cons_succ, List.set_cons_zero]
              refine wpAnyH_take (i := 9) (oi := ⟨some 84, .extract (.tmp 75) 0, _, _, _, none⟩) (v := .agg #[.int .u64 (i' : Int), .slice wo' W'.length kw', .slice po' P'.length kp']) rfl (by kernel_rfl) (by kernel_rfl) (by kernel_rfl) (fun _ _ _ h => h) (Or.inl ⟨by rfl, by (intro wq hSw; go_simp)⟩) HQ.out.r.b ?_
              simp only [Act.put, List.setIfInBounds_toArray, List.set_cons_succ, List.set_cons_zero]
              refine wpAnyH_take (i := 10) (oi := ⟨some 85, .extract (.tmp 75) 1, _, _, _, none⟩) (v := .agg #[.string ⟨root'.toArray⟩, .int .u64 (wt2 : Int), .int .u64 (f' : Int), .int .u64 (l' : Int), .int .u64 (n' : Int)]) rfl (by kernel_rfl) (by kernel_rfl) (by kernel_rfl) (fun _ _ _ h => h) (Or.inl ⟨by rfl, by (intro wq hSw; go_simp)⟩) HQ.out.r.b ?_
              simp only [Act.put, List.setIfInBounds_toArray, List.set_cons_succ, List.set_cons_zero]
              obtain ⟨_, hx⟩ := HQ.out.r.z1 X rfl
              have x0 := (lit_cell hx 0).trans rfl
              have e0 := lit_free hx 0
              have x1 := (lit_cell hx 1).trans rfl
              have e1 := lit_free hx 1
              have x2 := (lit_cell hx 2).trans rfl
              have e2 := lit_free hx 2
              clear hx
              refine wpAnyH_ready (rs := [13]) (by kernel_rfl) (by simp) (AllReadyH.cons (o := ⟨none, .store 48 (.tmp 13) (.tmp 84), _, _, _, none⟩) rfl (fun K hK => ?_) AllReadyH.nil)
              go_simp
              have hmid := HQ.out.mid (.int .u64 (i' : Int)) (.slice wo' W'.length kw') (.slice po' P'.length kp')
              refine hK.out _ _ hmid.2 (fun _ => ?_)
              clear hK K x0 x1 x2 e0 e1 e2
              try simp only [Act.put, List.setIfInBounds_toArray, List.set_cons_succ, List.set_cons_zero]
              have y0 := (lit_cell hmid.1 0).trans rfl
              have z0 := lit_free hmid.1 0
              have y1 := (lit_cell hmid.1 1).trans rfl
              have z1 := lit_free hmid.1 1
              have y2 := (lit_cell hmid.1 2).trans rfl
              have z2 := lit_free hmid.1 2
              have y3 := (lit_cell hmid.1 3).trans rfl
              have z3 := lit_free hmid.1 3
              have y4 := (lit_cell hmid.1 4).trans rfl
              have z4 := lit_free hmid.1 4
              clear hmid
              refine wpAnyH_ready (rs := [14]) (by kernel_rfl) (by simp) (AllReadyH.cons (o := ⟨none, .store 39 (.tmp 14) (.tmp 85), _, _, _, none⟩) rfl (fun K hK => ?_) AllReadyH.nil)
              go_simp
              have hend := HQ.out.end (wt := wt2)
              refine hK.out _ _ hend.b (fun _ => ?_)
              have HE := Lib.hid hend
              clear hK K hend y0 y1 y2 y3 y4 z0 z1 z2 z3 z4
              try simp only [Act.put, List.setIfInBounds_toArray, List.set_cons_succ, List.set_cons_zero]
              refine wpAnyH_done (by kernel_rfl) ?_ _
              go_wp2_with (fail)
              go_meet
              exact ⟨X, Y, ⟨i', f', l', n', W', P', wo', po', kw', kp', root'⟩, rfl, rfl, HE⟩
      · go_simp
        have HN := Lib.hid HR.out.al2
        refine hK.out _ _ HN.out.b (fun _ => ?_)
        clear hK K HR
        try simp only [Act.put, List.setIfInBounds_toArray, List.set_cons_succ, List.set_cons_zero]
        obtain ⟨Y, hY⟩ : ∃ Y, Y = v0.heap.size := ⟨_, rfl⟩
        rw [← hY] at HN
        rw [← hY]
        generalize v0.alloc (.cells #[.string ⟨#[]⟩, .int .u64 0, .int .u64 0, .int .u64 0, .int .u64 0] 39) = v26 at *
        have HR := Lib.hid HN.out
        clear HN hY
        refine wpAnyH_ready (rs := [5, 11]) (by kernel_rfl) (by simp) (AllReadyH.cons (o := ⟨some 81, .call { callee := .value (.func 17), args := #[.tmp 77, .tmp 80], argTypes := _ }, _, _, _, none⟩) rfl (fun K hK => ?_) (AllReadyH.cons (o := ⟨some 13, .alloc 48, _, _, _, none⟩) rfl (fun K hK => ?_) AllReadyH.nil))
        · go_simp
          refine (HPA.out b _ (HU.out.next HR.out.b).l).mono ?_
          rintro e v27 ⟨rfl, hb1⟩
          have HN := Lib.hid (HR.out.next hb1)
          refine hK.out _ _ HN.out.b (fun _ => ?_)
          clear hK K HR hb1
          try simp only [Act.put, List.setIfInBounds_toArray, List.set_cons_succ, List.set_cons_zero]
          have HR := Lib.hid HN.out
          clear HN
          refine wpAnyH_ready (rs := [7, 11]) (by kernel_rfl) (by simp) (AllReadyH.cons (o := ⟨some 83, .call { callee := .value (.func 23), args := #[.tmp 76, .tmp 81, .tmp 82], argTypes := _ }, _, _, _, none⟩) rfl (fun K hK => ?_) (AllReadyH.cons (o := ⟨some 13, .alloc 48, _, _, _, none⟩) rfl (fun K hK => ?_) AllReadyH.nil))
          · go_simp
            refine (HSP.out wo po kc kd _ (HU.out.next HR.out.b).hw (HU.out.next HR.out.b).hp).mono ?_
            rintro e v28 hsp
            obtain ⟨⟨i', f', l', n', W', P', wo', po', kw', kp', root'⟩, rfl, hok, hb1⟩ := hsp
            have HQ := Lib.hid (HR.out.spoilt hb1 hok)
            refine hK.out _ _ HQ.out.r.b (fun _ => ?_)
            clear hK K HR hb1 hok
            try dsimp only
            refine wpAnyH_take (i := 8) (oi := ⟨some 75, .move (.tmp 83), _, _, _, none⟩) (v := .tuple #[.agg #[.int .u64 (i' : Int), .slice wo' W'.length kw', .slice po' P'.length kp'], .agg #[.string ⟨root'.toArray⟩, .int .u64 (wt2 : Int), .int .u64 (f' : Int), .int .u64 (l' : Int), .int .u64 (n' : Int)]]) rfl (by kernel_rfl) (by kernel_rfl) (by kernel_rfl) (fun _ _ _ h => h) (Or.inl ⟨by rfl, by (intro wq hSw; go_simp)⟩) HQ.out.r.b ?_
            simp only [Act.put, List.setIfInBounds_toArray, List.set_cons_succ, List.set_cons_zero]
            refine wpAnyH_take (i := 9) (oi := ⟨some 84, .extract (.tmp 75) 0, _, _, _, none⟩) (v := .agg #[.int .u64 (i' : Int), .slice wo' W'.length kw', .slice po' P'.length kp']) rfl (by kernel_rfl) (by kernel_rfl) (by kernel_rfl) (fun _ _ _ h => h) (Or.inl ⟨by rfl, by (intro wq hSw; go_simp)⟩) HQ.out.r.b ?_
            simp only [Act.put, List.setIfInBounds_toArray, List.set_cons_succ, List.set_cons_zero]
            refine wpAnyH_take (i := 10) (oi := ⟨some 85, .extract (.tmp 75) 1, _, _, _, none⟩) (v := .agg #[.string ⟨root'.toArray⟩, .int .u64 (wt2 : Int), .int .u64 (f' : Int), .int .u64 (l' : Int), .int .u64 (n' : Int)]) rfl (by kernel_rfl) (by kernel_rfl) (by kernel_rfl) (fun _ _ _ h => h) (Or.inl ⟨by rfl, by (intro wq hSw; go_simp)⟩) HQ.out.r.b ?_
            simp only [Act.put, List.setIfInBounds_toArray, List.set_cons_succ, List.set_cons_zero]
            refine wpAnyH_ready (rs := [11]) (by kernel_rfl) (by simp) (AllReadyH.cons (o := ⟨some 13, .alloc 48, _, _, _, none⟩) rfl (fun K hK => ?_) AllReadyH.nil)
            · go_simp
              have HN := Lib.hid HQ.out.al1
              refine hK.out _ _ HN.out.r.b (fun _ => ?_)
              clear hK K HQ
              try simp only [Act.put, List.setIfInBounds_toArray, List.set_cons_succ, List.set_cons_zero]
              obtain ⟨X, hX⟩ : ∃ X, X = v28.heap.size := ⟨_, rfl⟩
              rw [← hX] at HN
              rw [← hX]
              generalize v28.alloc (.cells #[.int .u64 0, .slice none 0 0, .slice none 0 0] 48) = v29 at *
              have HQ := Lib.hid HN.out
              clear HN hX
              obtain ⟨_, hx⟩ := HQ.out.r.z1 X rfl
              have x0 := (lit_cell hx 0).trans rfl
              have e0 := lit_free hx 0
              have x1 := (lit_cell hx 1).trans rfl
              have e1 := lit_free hx 1
              have x2 := (lit_cell hx 2).trans rfl
              have e2 := lit_free hx 2
              clear hx
              refine wpAnyH_ready (rs := [13]) (by kernel_rfl) (by simp) (AllReadyH.cons (o := ⟨none, .store 48 (.tmp 13) (.tmp 84), _, _, _, none⟩) rfl (fun K hK => ?_) AllReadyH.nil)
              go_simp
              have hmid := HQ.out.mid (.int .u64 (i' : Int)) (.slice wo' W'.length kw') (.slice po' P'.length kp')
              refine hK.out _ _ hmid.2 (fun _ => ?_)
              clear hK K x0 x1 x2 e0 e1 e2
              try simp only [Act.put, List.setIfInBounds_toArray, List.set_cons_succ, List.set_cons_zero]
              have y0 := (lit_cell hmid.1 0).trans rfl
              have z0 := lit_free hmid.1 0
              have y1 := (lit_cell hmid.1 1).trans rfl
              have z1 := lit_free hmid.1 1
              have y2 := (lit_cell hmid.1 2).trans rfl
              have z2 := lit_free hmid.1 2
              have y3 := (lit_cell hmid.1 3).trans rfl
              have z3 := lit_free hmid.1 3
              have y4 := (lit_cell hmid.1 4).trans rfl
              have z4 := lit_free hmid.1 4
              clear hmid
              refine wpAnyH_ready (rs := [14]) (by kernel_rfl) (by simp) (AllReadyH.cons (o := ⟨none, .store 39 (.tmp 14) (.tmp 85), _, _, _, none⟩) rfl (fun K hK => ?_) AllReadyH.nil)
              go_simp
              have hend := HQ.out.end (wt := wt2)
              refine hK.out _ _ hend.b (fun _ => ?_)
              have HE := Lib.hid hend
              clear hK K hend y0 y1 y2 y3 y4 z0 z1 z2 z3 z4
              try simp only [Act.put, List.setIfInBounds_toArray, List.set_cons_succ, List.set_cons_zero]
              refine wpAnyH_done (by kernel_rfl) ?_ _
              go_wp2_with (fail)
              go_meet
              exact ⟨X, Y, ⟨i', f', l', n', W', P', wo', po', kw', kp', root'⟩, rfl, rfl, HE⟩
          · go_simp
            have HN := Lib.hid HR.out.al1
            refine hK.out _ _ HN.out.b (fun _ => ?_)
            clear hK K HR
            try simp only [Act.put, List.setIfInBounds_toArray, List.set_cons_succ, List.set_cons_zero]
            obtain ⟨X, hX⟩ : ∃ X, X = v27.heap.size := ⟨_, rfl⟩
            rw [← hX] at HN
            rw [← hX]
            generalize v27.alloc (.cells #[.int .u64 0, .slice none 0 0, .slice none 0 0] 48) = v30 at *
            have HR := Lib.hid HN.out
            clear HN hX
            refine wpAnyH_ready (rs := [7]) (by kernel_rfl) (by simp) (AllReadyH.cons (o := ⟨some 83, .call { callee := .value (.func 23), args := #[.tmp 76, .tmp 81, .tmp 82], argTypes := _ }, _, _, _, none⟩) rfl (fun K hK => ?_) AllReadyH.nil)
            · go_simp
              refine (HSP.out wo po kc kd _ (HU.out.next HR.out.b).hw (HU.out.next HR.out.b).hp).mono ?_
              rintro e v31 hsp
              obtain ⟨⟨i', f', l', n', W', P', wo', po', kw', kp', root'⟩, rfl, hok, hb1⟩ := hsp
              have HQ := Lib.hid (HR.out.spoilt hb1 hok)
              refine hK.out _ _ HQ.out.r.b (fun _ => ?_)
              clear hK K HR hb1 hok
              try dsimp only
              refine wpAnyH_take (i := 8) (oi := ⟨some 75, .move (.tmp 83), _, _, _, none⟩) (v := .tuple #[.agg #[.int .u64 (i' : Int), .slice wo' W'.length kw', .slice po' P'.length kp'], .agg #[.string ⟨root'.toArray⟩, .int .u64 (wt2 : Int), .int .u64 (f' : Int), .int .u64 (l' : Int), .int .u64 (n' : Int)]]) rfl (by kernel_rfl) (by kernel_rfl) (by kernel_rfl) (fun _ _ _ h => h) (Or.inl ⟨by rfl, by (intro wq hSw; go_simp)⟩) HQ.out.r.b ?_
              simp only [Act.put, List.setIfInBounds_toArray, List.set_cons_succ, List.set_cons_zero]
              refine wpAnyH_take (i := 9) (oi := ⟨some 84, .extract (.tmp 75) 0, _, _, _, none⟩) (v := .agg #[.int .u64 (i' : Int), .slice wo' W'.length kw', .slice po' P'.length kp']) rfl (by kernel_rfl) (by kernel_rfl) (by kernel_rfl) (fun _ _ _ h => h) (Or.inl ⟨by rfl, by (intro wq hSw; go_simp)⟩) HQ.out.r.b ?_
              simp only [Act.put, List.setIfInBounds_toArray, List.set_cons_succ, List.set_cons_zero]
              refine wpAnyH_take (i := 10) (oi := ⟨some 85, .extract (.tmp 75) 1, _, _, _, none⟩) (v := .agg #[.string ⟨root'.toArray⟩, .int .u64 (wt2 : Int), .int .u64 (f' : Int), .int .u64 (l' : Int), .int .u64 (n' : Int)]) rfl (by kernel_rfl) (by kernel_rfl) (by kernel_rfl) (fun _ _ _ h => h) (Or.inl ⟨by rfl, by (intro wq hSw; go_simp)⟩) HQ.out.r.b ?_
              simp only [Act.put, List.setIfInBounds_toArray, List.set_cons_succ, List.set_cons_zero]
              obtain ⟨_, hx⟩ := HQ.out.r.z1 X rfl
              have x0 := (lit_cell hx 0).trans rfl
              have e0 := lit_free hx 0
              have x1 := (lit_cell hx 1).trans rfl
              have e1 := lit_free hx 1
              have x2 := (lit_cell hx 2).trans rfl
              have e2 := lit_free hx 2
              clear hx
              refine wpAnyH_ready (rs := [13]) (by kernel_rfl) (by simp) (AllReadyH.cons (o := ⟨none, .store 48 (.tmp 13) (.tmp 84), _, _, _, none⟩) rfl (fun K hK => ?_) AllReadyH.nil)
              go_simp
              have hmid := HQ.out.mid (.int .u64 (i' : Int)) (.slice wo' W'.length kw') (.slice po' P'.length kp')
              refine hK.out _ _ hmid.2 (fun _ => ?_)
              clear hK K x0 x1 x2 e0 e1 e2
              try simp only [Act.put, List.setIfInBounds_toArray, List.set_cons_succ, List.set_cons_zero]
              have y0 := (lit_cell hmid.1 0).trans rfl
              have z0 := lit_free hmid.1 0
              have y1 := (lit_cell hmid.1 1).trans rfl
              have z1 := lit_free hmid.1 1
              have y2 := (lit_cell hmid.1 2).trans rfl
              have z2 := lit_free hmid.1 2
              have y3 := (lit_cell hmid.1 3).trans rfl
              have z3 := lit_free hmid.1 3
              have y4 := (lit_cell hmid.1 4).trans rfl
              have z4 := lit_free hmid.1 4
              clear hmid
              refine wpAnyH_ready (rs := [14]) (by kernel_rfl) (by simp) (AllReadyH.cons (o := ⟨none, .store 39 (.tmp 14) (.tmp 85), _, _, _, none⟩) rfl (fun K hK => ?_) AllReadyH.nil)
              go_simp
              have hend := HQ.out.end (wt := wt2)
              refine hK.out _ _ hend.b (fun _ => ?_)
              have HE := Lib.hid hend
              clear hK K hend y0 y1 y2 y3 y4 z0 z1 z2 z3 z4
              try simp only [Act.put, List.setIfInBounds_toArray, List.set_cons_succ, List.set_cons_zero]
              refine wpAnyH_done (by kernel_rfl) ?_ _
              go_wp2_with (fail)
              go_meet
              exact ⟨X, Y, ⟨i', f', l', n', W', P', wo', po', kw', kp', root'⟩, rfl, rfl, HE⟩
        · go_simp
          have HN := Lib.hid HR.out.al1
          refine hK.out _ _ HN.out.b (fun _ => ?_)
          clear hK K HR
          try simp only [Act.put, List.setIfInBounds_toArray, List.set_cons_succ, List.set_cons_zero]
          obtain ⟨X, hX⟩ : ∃ X, X = v26.heap.size := ⟨_, rfl⟩
          rw [← hX] at HN
          rw [← hX]
          generalize v26.alloc (.cells #[.int .u64 0, .slice none 0 0, .slice none 0 0] 48) = v32 at *
          have HR := Lib.hid HN.out
          clear HN hX
          refine wpAnyH_ready (rs := [5]) (by kernel_rfl) (by simp) (AllReadyH.cons (o := ⟨some 81, .call { callee := .value (.func 17), args := #[.tmp 77, .tmp 80], argTypes := _ }, _, _, _, none⟩) rfl (fun K hK => ?_) AllReadyH.nil)
          · go_simp
            refine (HPA.out b _ (HU.out.next HR.out.b).l).mono ?_
            rintro e v33 ⟨rfl, hb1⟩
            have HN := Lib.hid (HR.out.next hb1)
            refine hK.out _ _ HN.out.b (fun _ => ?_)
            clear hK K HR hb1
            try simp only [Act.put, List.setIfInBounds_toArray, List.set_cons_succ, List.set_cons_zero]
            have HR := Lib.hid HN.out
            clear HN
            refine wpAnyH_ready (rs := [7]) (by kernel_rfl) (by simp) (AllReadyH.cons (o := ⟨some 83, .call { callee := .value (.func 23), args := #[.tmp 76, .tmp 81, .tmp 82], argTypes := _ }, _, _, _, none⟩) rfl (fun K hK => ?_) AllReadyH.nil)
            · go_simp
              refine (HSP.out wo po kc kd _ (HU.out.next HR.out.b).hw (HU.out.next HR.out.b).hp).mono ?_
              rintro e v34 hsp
              obtain ⟨⟨i', f', l', n', W', P', wo', po', kw', kp', root'⟩, rfl, hok, hb1⟩ := hsp
              have HQ := Lib.hid (HR.out.spoilt hb1 hok)
              refine hK.out _ _ HQ.out.r.b (fun _ => ?_)
              clear hK K HR hb1 hok
              try dsimp only
              refine wpAnyH_take (i := 8) (oi := ⟨some 75, .move (.tmp 83), _, _, _, none⟩) (v := .tuple #[.agg #[.int .u64 (i' : Int), .slice wo' W'.length kw', .slice po' P'.length kp'], .agg #[.string ⟨root'.toArray⟩, .int .u64 (wt2 : Int), .int .u64 (f' : Int), .int .u64 (l' : Int), .int .u64 (n' : Int)]]) rfl (by kernel_rfl) (by kernel_rfl) (by kernel_rfl) (fun _ _ _ h => h) (Or.inl ⟨by rfl, by (intro wq hSw; go_simp)⟩) HQ.out.r.b ?_
              simp only [Act.put, List.setIfInBounds_toArray, List.set_cons_succ, List.set_cons_zero]
              refine wpAnyH_take (i := 9) (oi := ⟨some 84, .extract (.tmp 75) 0, _, _, _, none⟩) (v := .agg #[.int .u64 (i' : Int), .slice wo' W'.length kw', .slice po' P'.length kp']) rfl (by kernel_rfl) (by kernel_rfl) (by kernel_rfl) (fun _ _ _ h => h) (Or.inl ⟨by rfl, by (intro wq hSw; go_simp)⟩) HQ.out.r.b ?_
              simp only [Act.put, List.setIfInBounds_toArray, List.set_cons_succ, List.set_cons_zero]
              refine wpAnyH_take (i := 10) (oi := ⟨some 85, .extract (.tmp 75) 1, _, _, _, none⟩) (v := .agg #[.string ⟨root'.toArray⟩, .int .u64 (wt2 : Int), .int .u64 (f' : Int), .int .u64 (l' : Int), .int .u64 (n' : Int)]) rfl (by kernel_rfl) (by kernel_rfl) (by kernel_rfl) (fun _ _ _ h => h) (Or.inl ⟨by rfl, by (intro wq hSw; go_simp)⟩) HQ.out.r.b ?_
              simp only [Act.put, List.setIfInBounds_toArray, List.set_cons_succ, List.set_cons_zero]
              obtain ⟨_, hx⟩ := HQ.out.r.z1 X rfl
              have x0 := (lit_cell hx 0).trans rfl
              have e0 := lit_free hx 0
              have x1 := (lit_cell hx 1).trans rfl
              have e1 := lit_free hx 1
              have x2 := (lit_cell hx 2).trans rfl
              have e2 := lit_free hx 2
              clear hx
              refine wpAnyH_ready (rs := [13]) (by kernel_rfl) (by simp) (AllReadyH.cons (o := ⟨none, .store 48 (.tmp 13) (.tmp 84), _, _, _, none⟩) rfl (fun K hK => ?_) AllReadyH.nil)
              go_simp
              have hmid := HQ.out.mid (.int .u64 (i' : Int)) (.slice wo' W'.length kw') (.slice po' P'.length kp')
              refine hK.out _ _ hmid.2 (fun _ => ?_)
              clear hK K x0 x1 x2 e0 e1 e2
              try simp only [Act.put, List.setIfInBounds_toArray, List.set_cons_succ, List.set_cons_zero]
              have y0 := (lit_cell hmid.1 0).trans rfl
              have z0 := lit_free hmid.1 0
              have y1 := (lit_cell hmid.1 1).trans rfl
              have z1 := lit_free hmid.1 1
              have y2 := (lit_cell hmid.1 2).trans rfl
              have z2 := lit_free hmid.1 2
              have y3 := (lit_cell hmid.1 3).trans rfl
              have z3 := lit_free hmid.1 3
              have y4 := (lit_cell hmid.1 4).trans rfl
              have z4 := lit_free hmid.1 4
              clear hmid
              refine wpAnyH_ready (rs := [14]) (by kernel_rfl) (by simp) (AllReadyH.cons (o := ⟨none, .store 39 (.tmp 14) (.tmp 85), _, _, _, none⟩) rfl (fun K hK => ?_) AllReadyH.nil)
              go_simp
              have hend := HQ.out.end (wt := wt2)
              refine hK.out _ _ hend.b (fun _ => ?_)
              have HE := Lib.hid hend
              clear hK K hend y0 y1 y2 y3 y4 z0 z1 z2 z3 z4
              try simp only [Act.put, List.setIfInBounds_toArray, List.set_cons_succ, List.set_cons_zero]
              refine wpAnyH_done (by kernel_rfl) ?_ _
              go_wp2_with (fail)
              go_meet
              exact ⟨X, Y, ⟨i', f', l', n', W', P', wo', po', kw', kp', root'⟩, rfl, rfl, HE⟩
    case rest =>
      obtain ⟨X, Y, ⟨i', f', l', n', W', P', wo', po', kw', kp', root'⟩, rfl, rfl, HF⟩ := hcut
      clear HD13 HPA HSP t1
      have KA := Lib.hid (fun (wz : World) (hb : Below w.heap.size w wz) (hk : ∃ Bs, SpOk Bs ⟨i', f', l', n', W', P', wo', po', kw', kp', root'⟩ wz) (qv : Nat) (hq : qv < 18446744073709551616) => show Calls Tryz.prog 24 #[.agg #[.string ⟨root'.toArray⟩, .int .u64 (wt2 : Int), .int .u64 (f' : Int), .int .u64 (l' : Int), .int .u64 (n' : Int)], .int .u64 (qv : Int), .string ⟨D.toArray⟩, .agg #[.int .u64 (i' : Int), .slice wo' W'.length kw', .slice po' P'.length kp']] wz fun e w' => e = .returned (.int .i64 (verV root' f' l' n' qv D i' W' P' : Nat)) ∧ Below wz.heap.size wz w' from by
        obtain ⟨Bs, ok⟩ := hk
        exact L.cv root' wt2 f' l' n' qv D i' W' P' wo' po' kw' kp' wz (HGB.out wz hb) ok.rl hq ok.hf ok.hl ok.hn ok.hi HDL.out.2.2 (by rw [HDL.out.1]; decide) ok.hW.strs ok.hP.strs ok.wl (fun _ => ok.wb) ok.pc (Nat.le_trans ok.pl (by decide)) (fun _ => ok.pb))
      have KB := Lib.hid (fun (wz : World) (hk : ∃ Bs, SpOk Bs ⟨i', f', l', n', W', P', wo', po', kw', kp', root'⟩ wz) (qv : Nat) (hq : qv < 18446744073709551616) => show Calls Tryz.prog 25 #[.agg #[.string ⟨root'.toArray⟩, .int .u64 (wt2 : Int), .int .u64 (f' : Int), .int .u64 (l' : Int), .int .u64 (n' : Int)], .int .u64 (qv : Int), .string ⟨D.toArray⟩, .agg #[.int .u64 (i' : Int), .slice wo' W'.length kw', .slice po' P'.length kp']] wz fun e w' => e = .returned (.int .i64 (verV root' f' l' n' qv D i' W' P' : Nat)) ∧ Below wz.heap.size wz w' from by
        obtain ⟨Bs, ok⟩ := hk
        exact rverify_any root' wt2 f' l' n' qv D i' W' P' wo' po' kw' kp' wz hq ok.hW.strs ok.hP.strs ok.pc (fun _ => ⟨Nat.le_trans ok.pl (by decide), fun x hx => Nat.le_trans (ok.pb x hx) (by decide)⟩))
      have KE := Lib.hid (fun (wz : World) (hb : Below w.heap.size w wz) (hk : ∃ Bs, SpOk Bs ⟨i', f', l', n', W', P', wo', po', kw', kp', root'⟩ wz) => show Calls Tryz.prog 24 #[.agg #[.string ⟨root'.toArray⟩, .int .u64 (wt2 : Int), .int .u64 (f' : Int), .int .u64 (l' : Int), .int .u64 (n' : Int)], .int .u64 (r : Int), .string ⟨G.toArray⟩, .agg #[.int .u64 (i' : Int), .slice wo' W'.length kw', .slice po' P'.length kp']] wz fun e w' => e = .returned (.int .i64 2) ∧ Below wz.heap.size wz w' from by
        obtain ⟨Bs, ok⟩ := hk
        have h1 := L.cv root' wt2 f' l' n' r G i' W' P' wo' po' kw' kp' wz (HGB.out wz hb) ok.rl HRQ.out.1 ok.hf ok.hl ok.hn ok.hi HDL.out.2.2 (by rw [HDL.out.2.1]; decide) ok.hW.strs ok.hP.strs ok.wl (fun _ => ok.wb) ok.pc (Nat.le_trans ok.pl (by decide)) (fun _ => ok.pb)
        rw [ver_arg (.inl (by rw [HDL.out.2.1]; decide))] at h1
        exact h1)
      have HBW := Lib.hid (show ∀ wz, F13 w11 ⟨i', f', l', n', W', P', wo', po', kw', kp', root'⟩ wt2 X Y wz → Below w.heap.size w wz from fun wz h => by rw [← HAA.out]; exact (HU.out.next h.b).v.o)
      have HKK := Lib.hid (show ∀ wz, F13 w11 ⟨i', f', l', n', W', P', wo', po', kw', kp', root'⟩ wt2 X Y wz → ∃ Bs, SpOk Bs ⟨i', f', l', n', W', P', wo', po', kw', kp', root'⟩ wz from fun wz h => by obtain ⟨Bs, _, ok⟩ := h.k; exact ⟨Bs, ok⟩)
      have c6 := (lit_cell (HU.out.next HF.out.b).v.m 6).trans rfl
      have c4 := (lit_cell (HU.out.next HF.out.b).v.m 4).trans rfl
      obtain ⟨ry1, ry2⟩ := HY.out
      go_upto_region 15 with fail
      clear c6 c4 ry1 ry2
      obtain ⟨Z, hZ⟩ : ∃ Z, Z = wc.heap.size := ⟨_, rfl⟩
      have HZ := Lib.hid (show (wc.alloc (.cells #[.int .u64 (r : Int), .int .u64 (R : Int), .int .u64 (r2 : Int)] 22)).heap[Z]? = some (.cells #[.int .u64 (r : Int), .int .u64 (R : Int), .int .u64 (r2 : Int)] 22 (0, 0)) by rw [hZ]; exact heap_alloc_new wc _)
      have HF := Lib.hid (HF.out.next (by0 wc (.cells #[.int .u64 (r : Int), .int .u64 (R : Int), .int .u64 (r2 : Int)] 22)))
      rw [← hZ]
      generalize wc.alloc (.cells #[.int .u64 (r : Int), .int .u64 (R : Int), .int .u64 (r2 : Int)] 22) = w14 at *
      clear hZ
      go_loopw [95] (fun v95 wr => ∃ j : Nat, j ≤ 3 ∧ v95 = .int .i64 (j : Int) ∧ Hid (F13 w11 ⟨i', f', l', n', W', P', wo', po', kw', kp', root'⟩ wt2 X Y wr ∧ wr.heap[Z]? = some (.cells #[.int .u64 (r : Int), .int .u64 (R : Int), .int .u64 (r2 : Int)] 22 (0, 0)))) (fun v95 _ => 3 - (intOf v95).toNat)
      case atStart => exact ⟨0, by decide, rfl, Lib.hid ⟨HF.out, HZ.out⟩⟩
      case round =>
        obtain ⟨j, hj, rfl, HG⟩ := hrel
        by_cases hlt : j < 3
        · obtain ⟨qv, cq, hqv⟩ : ∃ qv : Nat, wr.cell? ⟨Z, j, none⟩ = some (.int .u64 (qv : Int)) ∧ qv < 18446744073709551616 := by
            match j, hlt with
            | 0, _ => exact ⟨r, (lit_cell HG.out.2 0).trans rfl, HRQ.out.1⟩
            | 1, _ => exact ⟨R, (lit_cell HG.out.2 1).trans rfl, HRQ.out.2.1⟩
            | 2, _ => exact ⟨r2, (lit_cell HG.out.2 2).trans rfl, HRQ.out.2.2⟩
          have i0 : (0 : Int) ≤ (j : Int) := by omega
          have i1 : (j : Int) < 3 := by omega
          have HLT := Lib.hid hlt
          have HQV := Lib.hid hqv
          clear hlt hj hqv
          obtain ⟨vv, hvv⟩ : ∃ vv, vv = verV root' f' l' n' qv D i' W' P' := ⟨_, rfl⟩
          have HCX := Lib.hid (show ∀ wz, (F13 w11 ⟨i', f', l', n', W', P', wo', po', kw', kp', root'⟩ wt2 X Y wz ∧ wz.heap[Z]? = some (.cells #[.int .u64 (r : Int), .int .u64 (R : Int), .int .u64 (r2 : Int)] 22 (0, 0))) → (wz.cell? ⟨X, 0, none⟩ = some (.int .u64 (i' : Int)) ∧ wz.cell? ⟨X, 1, none⟩ = some (.slice wo' W'.length kw') ∧ wz.cell? ⟨X, 2, none⟩ = some (.slice po' P'.length kp') ∧ wz.cell? ⟨Y, 0, none⟩ = some (.string ⟨root'.toArray⟩) ∧ wz.cell? ⟨Y, 1, none⟩ = some (.int .u64 (wt2 : Int)) ∧ wz.cell? ⟨Y, 2, none⟩ = some (.int .u64 (f' : Int)) ∧ wz.cell? ⟨Y, 3, none⟩ = some (.int .u64 (l' : Int)) ∧ wz.cell? ⟨Y, 4, none⟩ = some (.int .u64 (n' : Int)) ∧ (F13 w11 ⟨i', f', l', n', W', P', wo', po', kw', kp', root'⟩ wt2 X Y wz ∧ wz.heap[Z]? = some (.cells #[.int .u64 (r : Int), .int .u64 (R : Int), .int .u64 (r2 : Int)] 22 (0, 0)))) from fun wz h => ⟨(lit_cell h.1.x 0).trans rfl, (lit_cell h.1.x 1).trans rfl, (lit_cell h.1.x 2).trans rfl, (lit_cell h.1.y 0).trans rfl, (lit_cell h.1.y 1).trans rfl, (lit_cell h.1.y 2).trans rfl, (lit_cell h.1.y 3).trans rfl, (lit_cell h.1.y 4).trans rfl, h⟩)
          have HGX := Lib.hid (fun wz (h : (wz.cell? ⟨X, 0, none⟩ = some (.int .u64 (i' : Int)) ∧ wz.cell? ⟨X, 1, none⟩ = some (.slice wo' W'.length kw') ∧ wz.cell? ⟨X, 2, none⟩ = some (.slice po' P'.length kp') ∧ wz.cell? ⟨Y, 0, none⟩ = some (.string ⟨root'.toArray⟩) ∧ wz.cell? ⟨Y, 1, none⟩ = some (.int .u64 (wt2 : Int)) ∧ wz.cell? ⟨Y, 2, none⟩ = some (.int .u64 (f' : Int)) ∧ wz.cell? ⟨Y, 3, none⟩ = some (.int .u64 (l' : Int)) ∧ wz.cell? ⟨Y, 4, none⟩ = some (.int .u64 (n' : Int)) ∧ (F13 w11 ⟨i', f', l', n', W', P', wo', po', kw', kp', root'⟩ wt2 X Y wz ∧ wz.heap[Z]? = some (.cells #[.int .u64 (r : Int), .int .u64 (R : Int), .int .u64 (r2 : Int)] 22 (0, 0))))) => h.2.2.2.2.2.2.2.2)
          have HTX := Lib.hid (fun wz wa (h : (wz.cell? ⟨X, 0, none⟩ = some (.int .u64 (i' : Int)) ∧ wz.cell? ⟨X, 1, none⟩ = some (.slice wo' W'.length kw') ∧ wz.cell? ⟨X, 2, none⟩ = some (.slice po' P'.length kp') ∧ wz.cell? ⟨Y, 0, none⟩ = some (.string ⟨root'.toArray⟩) ∧ wz.cell? ⟨Y, 1, none⟩ = some (.int .u64 (wt2 : Int)) ∧ wz.cell? ⟨Y, 2, none⟩ = some (.int .u64 (f' : Int)) ∧ wz.cell? ⟨Y, 3, none⟩ = some (.int .u64 (l' : Int)) ∧ wz.cell? ⟨Y, 4, none⟩ = some (.int .u64 (n' : Int)) ∧ (F13 w11 ⟨i', f', l', n', W', P', wo', po', kw', kp', root'⟩ wt2 X Y wz ∧ wz.heap[Z]? = some (.cells #[.int .u64 (r : Int), .int .u64 (R : Int), .int .u64 (r2 : Int)] 22 (0, 0))))) (hb : Below wz.heap.size wz wa) => HCX.out wa ⟨(HGX.out _ h).1.next hb, (hb.block _ (lit_lt (HGX.out _ h).2)).trans (HGX.out _ h).2⟩)
          have J1 := Lib.hid (fun wz (h : (wz.cell? ⟨X, 0, none⟩ = some (.int .u64 (i' : Int)) ∧ wz.cell? ⟨X, 1, none⟩ = some (.slice wo' W'.length kw') ∧ wz.cell? ⟨X, 2, none⟩ = some (.slice po' P'.length kp') ∧ wz.cell? ⟨Y, 0, none⟩ = some (.string ⟨root'.toArray⟩) ∧ wz.cell? ⟨Y, 1, none⟩ = some (.int .u64 (wt2 : Int)) ∧ wz.cell? ⟨Y, 2, none⟩ = some (.int .u64 (f' : Int)) ∧ wz.cell? ⟨Y, 3, none⟩ = some (.int .u64 (l' : Int)) ∧ wz.cell? ⟨Y, 4, none⟩ = some (.int .u64 (n' : Int)) ∧ (F13 w11 ⟨i', f', l', n', W', P', wo', po', kw', kp', root'⟩ wt2 X Y wz ∧ wz.heap[Z]? = some (.cells #[.int .u64 (r : Int), .int .u64 (R : Int), .int .u64 (r2 : Int)] 22 (0, 0))))) => KA.out wz (HBW.out _ (HGX.out _ h).1) (HKK.out _ (HGX.out _ h).1) qv HQV.out)
          have J2 := Lib.hid (fun wz (h : (wz.cell? ⟨X, 0, none⟩ = some (.int .u64 (i' : Int)) ∧ wz.cell? ⟨X, 1, none⟩ = some (.slice wo' W'.length kw') ∧ wz.cell? ⟨X, 2, none⟩ = some (.slice po' P'.length kp') ∧ wz.cell? ⟨Y, 0, none⟩ = some (.string ⟨root'.toArray⟩) ∧ wz.cell? ⟨Y, 1, none⟩ = some (.int .u64 (wt2 : Int)) ∧ wz.cell? ⟨Y, 2, none⟩ = some (.int .u64 (f' : Int)) ∧ wz.cell? ⟨Y, 3, none⟩ = some (.int .u64 (l' : Int)) ∧ wz.cell? ⟨Y, 4, none⟩ = some (.int .u64 (n' : Int)) ∧ (F13 w11 ⟨i', f', l', n', W', P', wo', po', kw', kp', root'⟩ wt2 X Y wz ∧ wz.heap[Z]? = some (.cells #[.int .u64 (r : Int), .int .u64 (R : Int), .int .u64 (r2 : Int)] 22 (0, 0))))) => KB.out wz (HKK.out _ (HGX.out _ h).1) qv HQV.out)
          rw [← hvv] at J1 J2
          clear hvv
          go_upto_region 17 with fail
          clear cq
          have hS17 := HCX.out wr.drew ⟨HG.out.1.next (Below.refl _ _).drew, HG.out.2⟩
          go_region_held3 (fun wz => (wz.cell? ⟨X, 0, none⟩ = some (.int .u64 (i' : Int)) ∧ wz.cell? ⟨X, 1, none⟩ = some (.slice wo' W'.length kw') ∧ wz.cell? ⟨X, 2, none⟩ = some (.slice po' P'.length kp') ∧ wz.cell? ⟨Y, 0, none⟩ = some (.string ⟨root'.toArray⟩) ∧ wz.cell? ⟨Y, 1, none⟩ = some (.int .u64 (wt2 : Int)) ∧ wz.cell? ⟨Y, 2, none⟩ = some (.int .u64 (f' : Int)) ∧ wz.cell? ⟨Y, 3, none⟩ = some (.int .u64 (l' : Int)) ∧ wz.cell? ⟨Y, 4, none⟩ = some (.int .u64 (n' : Int)) ∧ (F13 w11 ⟨i', f', l', n', W', P', wo', po', kw', kp', root'⟩ wt2 X Y wz ∧ wz.heap[Z]? = some (.cells #[.int .u64 (r : Int), .int .u64 (R : Int), .int .u64 (r2 : Int)] 22 (0, 0)))))
            (first | (with_reducible assumption))
            (first
              | (go_at_call 24; with_reducible refine (J1.out _ (by with_reducible assumption)).mono ?_; rintro e wg ⟨rfl, hbg⟩; have hSg := HTX.out _ _ (by with_reducible assumption) hbg)
              | (go_at_call 25; with_reducible refine (J2.out _ (by with_reducible assumption)).mono ?_; rintro e wh ⟨rfl, hbh⟩; have hSh := HTX.out _ _ (by with_reducible assumption) hbh))
          all_goals
            first
              | (have HG2 := Lib.hid (HGX.out _ (HTX.out _ _ hSg hbh)); clear hS17 hSg hSh hbg hbh)
              | (have HG2 := Lib.hid (HGX.out _ (HTX.out _ _ hSh hbg)); clear hS17 hSg hSh hbg hbh)
            go_wp2
            go_roundw
            case rel => exact ⟨j + 1, HLT.out, by go_num, HG2⟩
            case measure => have := HLT.out; simp [intOf]; omega
        · have k1 : ¬ (j : Int) < 3 := by omega
          clear hlt hj
          obtain ⟨m1, hm1⟩ : ∃ m, m = min OL.length 3 := ⟨_, rfl⟩
          obtain ⟨m2, hm2⟩ : ∃ m, m = min OP.length 3 := ⟨_, rfl⟩
          have HM := Lib.hid (show m1 = (OL.take 3).length ∧ m2 = (OP.take 3).length ∧ m1 ≤ 3 ∧ m2 ≤ 3 ∧ m1 ≤ owc ∧ m2 ≤ opc by
            have h1 := HO.out.2.2.1
            have h2 := HO.out.2.2.2.2.1
            rw [List.length_take, List.length_take]
            omega)
          have e1 : min (OL.length : Int) 3 = (m1 : Int) := by omega
          have e2 : min (OP.length : Int) 3 = (m2 : Int) := by omega
          have e3 : (m1 : Int) ≤ (owc : Int) := by have := HM.out; omega
          have e4 : (m2 : Int) ≤ (opc : Int) := by have := HM.out; omega
          have e5 : m1 ≤ owc := HM.out.2.2.2.2.1
          have e6 : m2 ≤ opc := HM.out.2.2.2.2.2
          have e7 : (0 : Int) ≤ (m1 : Int) := by omega
          have e8 : (0 : Int) ≤ (m2 : Int) := by omega
          have o0 : ∀ ao : Option Addr, ao.map (fun x => x.add 0) = ao := fun ao => by cases ao <;> rfl
          clear hm1 hm2
          have hv := (HU.out.next HG.out.1.b).v
          have t1 := (lit_cell hv.t 1).trans rfl
          have g1 := lit_free hv.t 1
          have t2 := (lit_cell hv.t 2).trans rfl
          have g2 := lit_free hv.t 2
          clear hv
          go_upto_region 22 with fail
          have ht0 := lit_lt HU.out.v.t
          have HE := Lib.hid (show E13 (fun wq => V14 w A #[.int .u8 (s : Int), .int .u8 (d : Int), .int .u8 0, .int .u64 (f : Int), .int .u64 (l : Int), .int .i64 (n : Int), .int .u64 (R : Int), .int .u64 (wt : Int)] #[.int .u8 (q : Int), .int .u8 (y : Int), .int .u8 (zz : Int)] #[.int .u64 (oi : Int), .slice owo m1 owc, .slice opo m2 opc] wq) ⟨i', f', l', n', W', P', wo', po', kw', kp', root'⟩ wt2 X Y ((wr.setCell ⟨A + 2, 1, none⟩ (.slice owo m1 owc)).setCell ⟨A + 2, 2, none⟩ (.slice opo m2 opc)) from HG.out.1.e (((Kept.refl (fun j => w11.heap.size ≤ j) wr).setCell (A + 2) 1 (.slice owo m1 owc) (fun _ h => by omega)).setCell (A + 2) 2 (.slice opo m2 opc) (fun _ h => by omega)) (((HU.out.next HG.out.1.b).v.putT (k := 1) (v := .slice owo m1 owc)).putT (k := 2) (v := .slice opo m2 opc)))
          clear t1 g1 t2 g2 e1 e2 e3 e4 e5 e6 e7 e8 o0 ht0 HG k1
          generalize (wr.setCell ⟨A + 2, 1, none⟩ (.slice owo m1 owc)).setCell ⟨A + 2, 2, none⟩ (.slice opo m2 opc) = w20 at *
          have m1c := (lit_cell HE.out.v.m 1).trans rfl
          have HEN := Lib.hid (fun wz wa (h : E13 (fun wq => V14 w A #[.int .u8 (s : Int), .int .u8 (d : Int), .int .u8 0, .int .u64 (f : Int), .int .u64 (l : Int), .int .i64 (n : Int), .int .u64 (R : Int), .int .u64 (wt : Int)] #[.int .u8 (q : Int), .int .u8 (y : Int), .int .u8 (zz : Int)] #[.int .u64 (oi : Int), .slice owo m1 owc, .slice opo m2 opc] wq) ⟨i', f', l', n', W', P', wo', po', kw', kp', root'⟩ wt2 X Y wz) (hb : Below wz.heap.size wz wa) => E13.next (fun wz wa h hb => h.next hb) h hb)
          go_upto_region 23 with (go_at_call 9; with_reducible refine (HTG.out _).mono ?_; rintro e w22 ⟨rfl, hb22⟩; have HE2 := Lib.hid (HEN.out _ _ HE.out hb22))
          clear m1c HE
          have HBE := Lib.hid (show ∀ wz, E13 (fun wq => V14 w A #[.int .u8 (s : Int), .int .u8 (d : Int), .int .u8 0, .int .u64 (f : Int), .int .u64 (l : Int), .int .i64 (n : Int), .int .u64 (R : Int), .int .u64 (wt : Int)] #[.int .u8 (q : Int), .int .u8 (y : Int), .int .u8 (zz : Int)] #[.int .u64 (oi : Int), .slice owo m1 owc, .slice opo m2 opc] wq) ⟨i', f', l', n', W', P', wo', po', kw', kp', root'⟩ wt2 X Y wz → Below w.heap.size w wz from fun wz h => by rw [← HAA.out]; exact h.v.o)
          have HCX := Lib.hid (show ∀ wz, E13 (fun wq => V14 w A #[.int .u8 (s : Int), .int .u8 (d : Int), .int .u8 0, .int .u64 (f : Int), .int .u64 (l : Int), .int .i64 (n : Int), .int .u64 (R : Int), .int .u64 (wt : Int)] #[.int .u8 (q : Int), .int .u8 (y : Int), .int .u8 (zz : Int)] #[.int .u64 (oi : Int), .slice owo m1 owc, .slice opo m2 opc] wq) ⟨i', f', l', n', W', P', wo', po', kw', kp', root'⟩ wt2 X Y wz → (wz.cell? ⟨X, 0, none⟩ = some (.int .u64 (i' : Int)) ∧ wz.cell? ⟨X, 1, none⟩ = some (.slice wo' W'.length kw') ∧ wz.cell? ⟨X, 2, none⟩ = some (.slice po' P'.length kp') ∧ wz.cell? ⟨Y, 0, none⟩ = some (.string ⟨root'.toArray⟩) ∧ wz.cell? ⟨Y, 1, none⟩ = some (.int .u64 (wt2 : Int)) ∧ wz.cell? ⟨Y, 2, none⟩ = some (.int .u64 (f' : Int)) ∧ wz.cell? ⟨Y, 3, none⟩ = some (.int .u64 (l' : Int)) ∧ wz.cell? ⟨Y, 4, none⟩ = some (.int .u64 (n' : Int)) ∧ wz.cell? ⟨A + 2, 0, none⟩ = some (.int .u64 (oi : Int)) ∧ wz.cell? ⟨A + 2, 1, none⟩ = some (.slice owo m1 owc) ∧ wz.cell? ⟨A + 2, 2, none⟩ = some (.slice opo m2 opc) ∧ E13 (fun wq => V14 w A #[.int .u8 (s : Int), .int .u8 (d : Int), .int .u8 0, .int .u64 (f : Int), .int .u64 (l : Int), .int .i64 (n : Int), .int .u64 (R : Int), .int .u64 (wt : Int)] #[.int .u8 (q : Int), .int .u8 (y : Int), .int .u8 (zz : Int)] #[.int .u64 (oi : Int), .slice owo m1 owc, .slice opo m2 opc] wq) ⟨i', f', l', n', W', P', wo', po', kw', kp', root'⟩ wt2 X Y wz) from fun wz h => ⟨(lit_cell h.x 0).trans rfl, (lit_cell h.x 1).trans rfl, (lit_cell h.x 2).trans rfl, (lit_cell h.y 0).trans rfl, (lit_cell h.y 1).trans rfl, (lit_cell h.y 2).trans rfl, (lit_cell h.y 3).trans rfl, (lit_cell h.y 4).trans rfl, (lit_cell h.v.t 0).trans rfl, (lit_cell h.v.t 1).trans rfl, (lit_cell h.v.t 2).trans rfl, h⟩)
          have HGX := Lib.hid (fun wz (h : (wz.cell? ⟨X, 0, none⟩ = some (.int .u64 (i' : Int)) ∧ wz.cell? ⟨X, 1, none⟩ = some (.slice wo' W'.length kw') ∧ wz.cell? ⟨X, 2, none⟩ = some (.slice po' P'.length kp') ∧ wz.cell? ⟨Y, 0, none⟩ = some (.string ⟨root'.toArray⟩) ∧ wz.cell? ⟨Y, 1, none⟩ = some (.int .u64 (wt2 : Int)) ∧ wz.cell? ⟨Y, 2, none⟩ = some (.int .u64 (f' : Int)) ∧ wz.cell? ⟨Y, 3, none⟩ = some (.int .u64 (l' : Int)) ∧ wz.cell? ⟨Y, 4, none⟩ = some (.int .u64 (n' : Int)) ∧ wz.cell? ⟨A + 2, 0, none⟩ = some (.int .u64 (oi : Int)) ∧ wz.cell? ⟨A + 2, 1, none⟩ = some (.slice owo m1 owc) ∧ wz.cell? ⟨A + 2, 2, none⟩ = some (.slice opo m2 opc) ∧ E13 (fun wq => V14 w A #[.int .u8 (s : Int), .int .u8 (d : Int), .int .u8 0, .int .u64 (f : Int), .int .u64 (l : Int), .int .i64 (n : Int), .int .u64 (R : Int), .int .u64 (wt : Int)] #[.int .u8 (q : Int), .int .u8 (y : Int), .int .u8 (zz : Int)] #[.int .u64 (oi : Int), .slice owo m1 owc, .slice opo m2 opc] wq) ⟨i', f', l', n', W', P', wo', po', kw', kp', root'⟩ wt2 X Y wz)) => h.2.2.2.2.2.2.2.2.2.2.2)
          have HTX := Lib.hid (fun wz wa (h : (wz.cell? ⟨X, 0, none⟩ = some (.int .u64 (i' : Int)) ∧ wz.cell? ⟨X, 1, none⟩ = some (.slice wo' W'.length kw') ∧ wz.cell? ⟨X, 2, none⟩ = some (.slice po' P'.length kp') ∧ wz.cell? ⟨Y, 0, none⟩ = some (.string ⟨root'.toArray⟩) ∧ wz.cell? ⟨Y, 1, none⟩ = some (.int .u64 (wt2 : Int)) ∧ wz.cell? ⟨Y, 2, none⟩ = some (.int .u64 (f' : Int)) ∧ wz.cell? ⟨Y, 3, none⟩ = some (.int .u64 (l' : Int)) ∧ wz.cell? ⟨Y, 4, none⟩ = some (.int .u64 (n' : Int)) ∧ wz.cell? ⟨A + 2, 0, none⟩ = some (.int .u64 (oi : Int)) ∧ wz.cell? ⟨A + 2, 1, none⟩ = some (.slice owo m1 owc) ∧ wz.cell? ⟨A + 2, 2, none⟩ = some (.slice opo m2 opc) ∧ E13 (fun wq => V14 w A #[.int .u8 (s : Int), .int .u8 (d : Int), .int .u8 0, .int .u64 (f : Int), .int .u64 (l : Int), .int .i64 (n : Int), .int .u64 (R : Int), .int .u64 (wt : Int)] #[.int .u8 (q : Int), .int .u8 (y : Int), .int .u8 (zz : Int)] #[.int .u64 (oi : Int), .slice owo m1 owc, .slice opo m2 opc] wq) ⟨i', f', l', n', W', P', wo', po', kw', kp', root'⟩ wt2 X Y wz)) (hb : Below wz.heap.size wz wa) => HCX.out wa (HEN.out _ _ (HGX.out _ h) hb))
          obtain ⟨vo, hvo⟩ : ∃ vo, vo = verV root' f' l' n' r D oi (OL.take 3) (OP.take 3) := ⟨_, rfl⟩
          have hl3 : ¬ (OL.take 3).length = 67 := by have := HM.out; omega
          have hrc : recC (OL.take 3) D = ([], 10) := recC_sig HDL.out.1 (isSig_len hl3)
          have J1 := Lib.hid (fun wz (h : (wz.cell? ⟨X, 0, none⟩ = some (.int .u64 (i' : Int)) ∧ wz.cell? ⟨X, 1, none⟩ = some (.slice wo' W'.length kw') ∧ wz.cell? ⟨X, 2, none⟩ = some (.slice po' P'.length kp') ∧ wz.cell? ⟨Y, 0, none⟩ = some (.string ⟨root'.toArray⟩) ∧ wz.cell? ⟨Y, 1, none⟩ = some (.int .u64 (wt2 : Int)) ∧ wz.cell? ⟨Y, 2, none⟩ = some (.int .u64 (f' : Int)) ∧ wz.cell? ⟨Y, 3, none⟩ = some (.int .u64 (l' : Int)) ∧ wz.cell? ⟨Y, 4, none⟩ = some (.int .u64 (n' : Int)) ∧ wz.cell? ⟨A + 2, 0, none⟩ = some (.int .u64 (oi : Int)) ∧ wz.cell? ⟨A + 2, 1, none⟩ = some (.slice owo m1 owc) ∧ wz.cell? ⟨A + 2, 2, none⟩ = some (.slice opo m2 opc) ∧ E13 (fun wq => V14 w A #[.int .u8 (s : Int), .int .u8 (d : Int), .int .u8 0, .int .u64 (f : Int), .int .u64 (l : Int), .int .i64 (n : Int), .int .u64 (R : Int), .int .u64 (wt : Int)] #[.int .u8 (q : Int), .int .u8 (y : Int), .int .u8 (zz : Int)] #[.int .u64 (oi : Int), .slice owo m1 owc, .slice opo m2 opc] wq) ⟨i', f', l', n', W', P', wo', po', kw', kp', root'⟩ wt2 X Y wz)) => show Calls Tryz.prog 24 #[.agg #[.string ⟨root'.toArray⟩, .int .u64 (wt2 : Int), .int .u64 (f' : Int), .int .u64 (l' : Int), .int .u64 (n' : Int)], .int .u64 (r : Int), .string ⟨D.toArray⟩, .agg #[.int .u64 (oi : Int), .slice owo m1 owc, .slice opo m2 opc]] wz fun e w' => e = .returned (.int .i64 (vo : Nat)) ∧ Below wz.heap.size wz w' from by
            obtain ⟨Bs, ok⟩ := (HGX.out _ h).k
            have hb := HBE.out _ (HGX.out _ h)
            have h1 := L.cv root' wt2 f' l' n' r D oi (OL.take 3) (OP.take 3) owo opo owc opc wz (HGB.out wz hb) ok.rl HRQ.out.1 ok.hf ok.hl ok.hn HO.out.2.2.2.2.2.2 HDL.out.2.2 (by rw [HDL.out.1]; decide) (strs_cut (HO.out.1.below (Nat.le_refl _) hb) 3) (strs_cut (HO.out.2.1.below (Nat.le_refl _) hb) 3) (by have := HM.out; omega) (fun h => absurd h hl3) (by have := HM.out; omega) (by have := HM.out; omega) (fun h => by rw [hrc] at h; exact absurd h (by decide))
            rw [← HM.out.1, ← HM.out.2.1, ← hvo] at h1
            exact h1)
          have J2 := Lib.hid (fun wz (h : (wz.cell? ⟨X, 0, none⟩ = some (.int .u64 (i' : Int)) ∧ wz.cell? ⟨X, 1, none⟩ = some (.slice wo' W'.length kw') ∧ wz.cell? ⟨X, 2, none⟩ = some (.slice po' P'.length kp') ∧ wz.cell? ⟨Y, 0, none⟩ = some (.string ⟨root'.toArray⟩) ∧ wz.cell? ⟨Y, 1, none⟩ = some (.int .u64 (wt2 : Int)) ∧ wz.cell? ⟨Y, 2, none⟩ = some (.int .u64 (f' : Int)) ∧ wz.cell? ⟨Y, 3, none⟩ = some (.int .u64 (l' : Int)) ∧ wz.cell? ⟨Y, 4, none⟩ = some (.int .u64 (n' : Int)) ∧ wz.cell? ⟨A + 2, 0, none⟩ = some (.int .u64 (oi : Int)) ∧ wz.cell? ⟨A + 2, 1, none⟩ = some (.slice owo m1 owc) ∧ wz.cell? ⟨A + 2, 2, none⟩ = some (.slice opo m2 opc) ∧ E13 (fun wq => V14 w A #[.int .u8 (s : Int), .int .u8 (d : Int), .int .u8 0, .int .u64 (f : Int), .int .u64 (l : Int), .int .i64 (n : Int), .int .u64 (R : Int), .int .u64 (wt : Int)] #[.int .u8 (q : Int), .int .u8 (y : Int), .int .u8 (zz : Int)] #[.int .u64 (oi : Int), .slice owo m1 owc, .slice opo m2 opc] wq) ⟨i', f', l', n', W', P', wo', po', kw', kp', root'⟩ wt2 X Y wz)) => show Calls Tryz.prog 25 #[.agg #[.string ⟨root'.toArray⟩, .int .u64 (wt2 : Int), .int .u64 (f' : Int), .int .u64 (l' : Int), .int .u64 (n' : Int)], .int .u64 (r : Int), .string ⟨D.toArray⟩, .agg #[.int .u64 (oi : Int), .slice owo m1 owc, .slice opo m2 opc]] wz fun e w' => e = .returned (.int .i64 (vo : Nat)) ∧ Below wz.heap.size wz w' from by
            have hb := HBE.out _ (HGX.out _ h)
            have h1 := rverify_any root' wt2 f' l' n' r D oi (OL.take 3) (OP.take 3) owo opo owc opc wz HRQ.out.1 (strs_cut (HO.out.1.below (Nat.le_refl _) hb) 3) (strs_cut (HO.out.2.1.below (Nat.le_refl _) hb) 3) (by have := HM.out; omega) (fun h => by rw [hrc] at h; exact absurd h (by decide))
            rw [← HM.out.1, ← HM.out.2.1, ← hvo] at h1
            exact h1)
          have J3 := Lib.hid (fun wz (h : (wz.cell? ⟨X, 0, none⟩ = some (.int .u64 (i' : Int)) ∧ wz.cell? ⟨X, 1, none⟩ = some (.slice wo' W'.length kw') ∧ wz.cell? ⟨X, 2, none⟩ = some (.slice po' P'.length kp') ∧ wz.cell? ⟨Y, 0, none⟩ = some (.string ⟨root'.toArray⟩) ∧ wz.cell? ⟨Y, 1, none⟩ = some (.int .u64 (wt2 : Int)) ∧ wz.cell? ⟨Y, 2, none⟩ = some (.int .u64 (f' : Int)) ∧ wz.cell? ⟨Y, 3, none⟩ = some (.int .u64 (l' : Int)) ∧ wz.cell? ⟨Y, 4, none⟩ = some (.int .u64 (n' : Int)) ∧ wz.cell? ⟨A + 2, 0, none⟩ = some (.int .u64 (oi : Int)) ∧ wz.cell? ⟨A + 2, 1, none⟩ = some (.slice owo m1 owc) ∧ wz.cell? ⟨A + 2, 2, none⟩ = some (.slice opo m2 opc) ∧ E13 (fun wq => V14 w A #[.int .u8 (s : Int), .int .u8 (d : Int), .int .u8 0, .int .u64 (f : Int), .int .u64 (l : Int), .int .i64 (n : Int), .int .u64 (R : Int), .int .u64 (wt : Int)] #[.int .u8 (q : Int), .int .u8 (y : Int), .int .u8 (zz : Int)] #[.int .u64 (oi : Int), .slice owo m1 owc, .slice opo m2 opc] wq) ⟨i', f', l', n', W', P', wo', po', kw', kp', root'⟩ wt2 X Y wz)) => KE.out wz (HBE.out _ (HGX.out _ h)) (HGX.out _ h).k)
          clear hvo hl3 hrc
          have hS23 := HCX.out w22.drew (HEN.out _ _ HE2.out (Below.refl _ _).drew)
          go_region_held3 (fun wz => (wz.cell? ⟨X, 0, none⟩ = some (.int .u64 (i' : Int)) ∧ wz.cell? ⟨X, 1, none⟩ = some (.slice wo' W'.length kw') ∧ wz.cell? ⟨X, 2, none⟩ = some (.slice po' P'.length kp') ∧ wz.cell? ⟨Y, 0, none⟩ = some (.string ⟨root'.toArray⟩) ∧ wz.cell? ⟨Y, 1, none⟩ = some (.int .u64 (wt2 : Int)) ∧ wz.cell? ⟨Y, 2, none⟩ = some (.int .u64 (f' : Int)) ∧ wz.cell? ⟨Y, 3, none⟩ = some (.int .u64 (l' : Int)) ∧ wz.cell? ⟨Y, 4, none⟩ = some (.int .u64 (n' : Int)) ∧ wz.cell? ⟨A + 2, 0, none⟩ = some (.int .u64 (oi : Int)) ∧ wz.cell? ⟨A + 2, 1, none⟩ = some (.slice owo m1 owc) ∧ wz.cell? ⟨A + 2, 2, none⟩ = some (.slice opo m2 opc) ∧ E13 (fun wq => V14 w A #[.int .u8 (s : Int), .int .u8 (d : Int), .int .u8 0, .int .u64 (f : Int), .int .u64 (l : Int), .int .i64 (n : Int), .int .u64 (R : Int), .int .u64 (wt : Int)] #[.int .u8 (q : Int), .int .u8 (y : Int), .int .u8 (zz : Int)] #[.int .u64 (oi : Int), .slice owo m1 owc, .slice opo m2 opc] wq) ⟨i', f', l', n', W', P', wo', po', kw', kp', root'⟩ wt2 X Y wz))
            (first | (with_reducible assumption))
            (first
              | (go_at_call 13; with_reducible refine (HWO.out _ (HBE.out _ (HGX.out _ (by with_reducible assumption)))).mono ?_; rintro e wk ⟨rfl, hbk⟩; have hSk := HTX.out _ _ (by with_reducible assumption) hbk)
              | (go_at_call 24; with_reducible refine (J1.out _ (by with_reducible assumption)).mono ?_; rintro e wg ⟨rfl, hbg⟩; have hSg := HTX.out _ _ (by with_reducible assumption) hbg)
              | (go_at_call 24; with_reducible refine (J3.out _ (by with_reducible assumption)).mono ?_; rintro e wj ⟨rfl, hbj⟩; have hSj := HTX.out _ _ (by with_reducible assumption) hbj)
              | (go_at_call 25; with_reducible refine (J2.out _ (by with_reducible assumption)).mono ?_; rintro e wh ⟨rfl, hbh⟩; have hSh := HTX.out _ _ (by with_reducible assumption) hbh))
          all_goals
            have HFI := Lib.hid (HBE.out _ (HGX.out _ hSk))
            clear hS23 hSk hSj hSg hSh
            go_wp2
            exact bodyPost_ret (v := .bool true) (by simp [results, Tryz.results4, go_sem]) rfl ⟨rfl, HFI.out⟩
end Go.Proofs.YtmnklonoelpidaaGreatDoor
