/- At: a place's digest. -/
import Derived.Test.YtblimejnjboedaaGreatDoorJ31
import Derived.Test.YtblimejnjboedaaGreatDoorJ30
import Derived.Test.YtblimejnjboedaaGreatDoorJ19
import Derived.Laws.EntriesVeiled
namespace Go.Proofs.YtblimejnjboedaaGreatDoor
open Go.RowKit

/-- is there such a place? -/
def atIn (d : Nat) (level : Int) (k : Nat) : Bool := decide (0 ≤ level) && (decide (level ≤ (d : Int)) && decide (k < 2 ^ (d - level.toNat)))
def atD (L : List (List UInt8)) (level : Int) (k : Nat) : (List UInt8) := if atIn (dep L.length) level k = true then dg (gl L (dep L.length)) level.toNat k else []
abbrev atV (L : List (List UInt8)) (level : Int) (k : Nat) : Value := .tuple #[.string ⟨(atD L level k).toArray⟩, .bool (atIn (dep L.length) level k)]
theorem half_pow (k q : Nat) : k / 2 ^ q = 2 * (k / 2 ^ (q + 1)) + k / 2 ^ q % 2 := by
  have : k / 2 ^ (q + 1) = k / 2 ^ q / 2 := by rw [Nat.pow_succ, Nat.div_div_eq_div_mul]
  omega
theorem shl_pow {e : Nat} (he : e ≤ 16) : IntKind.u64.wrap ((2 : Int) ^ e) = (2 : Int) ^ e ∧ (2 : Int) ^ e = ((2 ^ e : Nat) : Int) ∧ 2 ^ e ≤ 65536 := by
  have hp : 2 ^ e ≤ 2 ^ 16 := Nat.pow_le_pow_right (by decide) he
  have hc : ((2 : Int) ^ e) = ((2 ^ e : Nat) : Int) := by simp
  refine ⟨?_, hc, hp⟩
  rw [hc, IntKind.wrap_u64]
  generalize 2 ^ e = p at hp ⊢
  omega
theorem at_bad (t : Value) (D : Int) (level : Int) (k : Nat) (w : World) (hD : Calls Tryz.prog 27 #[t] w fun e w' => e = .returned (.int .i64 D) ∧ w = w') (h : level < 0 ∨ D < level) :
    Calls Tryz.prog 30 #[t, .int .i64 level, .int .u64 (k : Int)] w fun e w' => e = .returned (.tuple #[.string ⟨#[]⟩, .bool false]) ∧ w = w' := by
  have HD := Lib.hid hD
  clear hD
  rcases h with h | h
  · go_enter Tryz.func30, Tryz.ntmps30
    go_wp2_with (go_at_call 27; refine HD.out.mono ?_; rintro e w' ⟨rfl, rfl⟩)
    exact bodyPost_ret (v := .tuple #[.string ⟨#[]⟩, .bool false]) (by simp [results, Tryz.results30, go_sem]) rfl ⟨rfl, rfl⟩
  · by_cases h0 : level < 0
    · go_enter Tryz.func30, Tryz.ntmps30
      go_wp2_with (go_at_call 27; refine HD.out.mono ?_; rintro e w' ⟨rfl, rfl⟩)
      exact bodyPost_ret (v := .tuple #[.string ⟨#[]⟩, .bool false]) (by simp [results, Tryz.results30, go_sem]) rfl ⟨rfl, rfl⟩
    · go_enter Tryz.func30, Tryz.ntmps30
      go_wp2_with (go_at_call 27; refine HD.out.mono ?_; rintro e w' ⟨rfl, rfl⟩)
      exact bodyPost_ret (v := .tuple #[.string ⟨#[]⟩, .bool false]) (by simp [results, Tryz.results30, go_sem]) rfl ⟨rfl, rfl⟩
set_option maxRecDepth 100000 in
set_option maxHeartbeats 1000000 in
theorem at_any (L : List (List UInt8)) (t : Nat) (level : Int) (k : Nat) (w : World) (hT : TreeM L w t) (hk : k < 18446744073709551616) :
    Calls Tryz.prog 30 #[.pointer (some ⟨t, 0, none⟩), .int .i64 level, .int .u64 (k : Int)] w fun e w' => e = .returned (atV L level k) ∧ Below w.heap.size w w' := by
  have hD := depthT_any L t w hT
  have hd := dep_le L.length hT.le
  by_cases hl : level < 0 ∨ (dep L.length : Int) < level
  · have e : atIn (dep L.length) level k = false := by simp [atIn]; omega
    rw [atV, atD, e]
    exact (at_bad _ _ level k w hD hl).mono fun e w' h => ⟨h.1, h.2 ▸ Below.refl _ _⟩
  obtain ⟨v, rfl⟩ : ∃ v : Nat, level = (v : Int) := ⟨level.toNat, by omega⟩
  obtain ⟨E, hE⟩ : ∃ E, E = dep L.length - v := ⟨_, rfl⟩
  have HD := Lib.hid hD
  have hdv : (dep L.length : Int) - (v : Int) = (E : Int) := by omega
  have hv : (v : Int) ≤ (dep L.length : Int) := by omega
  have hv2 : ¬ (v : Int) < 0 := by omega
  have hv3 : ¬ (dep L.length : Int) < (v : Int) := by omega
  obtain ⟨r, h1, h2⟩ := hT.blk
  have hatin : atIn (dep L.length) (v : Int) k = decide (k < 2 ^ E) := by
    rw [hE]
    simp [atIn]
    omega
  have hatD : k < 2 ^ E → atD L (v : Int) k = dg (gl L (dep L.length)) v k := fun h => by
    rw [atD, hatin, if_pos (by simpa using h)]
    rfl
  have HBAD : Hid (¬ k < 2 ^ E → atD L (v : Int) k = []) := Lib.hid fun h => by
    rw [atD, hatin, if_neg (by simpa using h)]
  have HIN : Hid (InT (gl L (dep L.length)) w (v + E) 0 r) := Lib.hid (by rw [hE, show v + (dep L.length - v) = dep L.length by omega]; exact h2)
  rw [atV, hatin]
  have c0 := (lit_cell h1 0).trans rfl
  have hE16 : E ≤ 16 := by omega
  have hv16 : (v : Int) ≤ 16 := by omega
  have HS := Lib.hid (fun q (hq : q < 64) w => side_any k q hk hq w)
  clear hD hT hl h1 h2 hE hatin
  generalize gl L (dep L.length) = g at *
  generalize dep L.length = d at *
  obtain ⟨hs1, hs2, hs3⟩ := shl_pow hE16
  by_cases hkE : k < 2 ^ E
  · have hlt : ¬ (2 : Int) ^ E ≤ (k : Int) := by rw [hs2]; omega
    rw [hatD hkE, decide_eq_true hkE]
    have HK := Lib.hid hkE
    clear hatD hkE hs2 hs3
    go_enter Tryz.func30, Tryz.ntmps30
    go_upto_region 2 with (go_at_call 27; refine HD.out.mono ?_; rintro e w' ⟨rfl, rfl⟩)
    go_wp2
    have hf1 : decide (d < v) = false := decide_eq_false (by omega)
    have hf2 : decide ((v : Int) < 0) = false := decide_eq_false (by omega)
    have hf3 : decide ((2 : Int) ^ E ≤ (k : Int)) = false := decide_eq_false (Int.not_le.2 hlt)
    simp only [hf1, hf2, hf3, Bool.or_false]
    have HE16 := Lib.hid hE16
    clear hf1 hf2 hf3 hv2 hv3 hlt hv hdv hs1 hE16 hv16 c0 hd
    go_loopw [9, 10] (fun p dn wr => ∃ q b : Nat, q ≤ E ∧ p = .pointer (some ⟨b, 0, none⟩) ∧ dn = .int .i64 (q : Int) ∧ Hid (InT g wr (v + q) (k / 2 ^ q) b) ∧ Below w.heap.size w wr) (fun _ dn _ => (intOf dn).toNat)
    case atStart => exact ⟨E, r, Nat.le_refl _, rfl, rfl, Lib.hid (by rw [Nat.div_eq_of_lt HK.out]; exact HIN.out), Below.refl _ _⟩
    case round =>
      obtain ⟨q, b, hq, rfl, rfl, HB, hbw⟩ := hrel
      by_cases hq0 : q = 0
      · subst hq0
        have hb := HB.out
        rw [Nat.pow_zero, Nat.div_one, Nat.add_zero] at hb
        obtain ⟨x, y, hb⟩ := hb.blk
        have d0 := (lit_cell hb 0).trans rfl
        clear hb
        go_wp2
        exact bodyPost_ret (v := .tuple #[.string ⟨(dg g v k).toArray⟩, .bool true]) (by simp [results, Tryz.results30, go_sem]) rfl ⟨rfl, hbw⟩
      · obtain ⟨j, hj⟩ : ∃ j, q = j + 1 := ⟨q - 1, by omega⟩
        have hb := HB.out
        rw [hj] at hb
        obtain ⟨x, y, hb, hx, hy⟩ := hb
        have d1 := (lit_cell hb 1).trans rfl
        have d2 := (lit_cell hb 2).trans rfl
        have HX := Lib.hid hx
        have HY := Lib.hid hy
        have HJ := Lib.hid (half_pow k j)
        have HSJ := Lib.hid (fun w => HS.out j (by have := HE16.out; omega) w)
        have k0 : (0 : Int) < (q : Int) := by omega
        have e1 : (q : Int) - 1 = (j : Int) := by omega
        have e2 : (0 : Int) ≤ (j : Int) := by omega
        have e3 : IntKind.i64.wrap (j : Int) = (j : Int) := by rw [IntKind.wrap_i64]; have := HE16.out; omega
        have HQ := Lib.hid (And.intro hj hq)
        clear hb hx hy HB hj hq hq0
        rcases Nat.mod_two_eq_zero_or_one (k / 2 ^ j) with hs | hs
        · rw [hs] at HSJ
          have HE := Lib.hid (show k / 2 ^ j = 2 * (k / 2 ^ (j + 1)) from by have := HJ.out; omega)
          clear hs
          go_wp2
          go_region_held3 (fun w' => w'.cell? ⟨b, 1, none⟩ = some (.pointer (some ⟨x, 0, none⟩)) ∧ w'.cell? ⟨b, 2, none⟩ = some (.pointer (some ⟨y, 0, none⟩))) (first | (with_reducible assumption) | (exact ⟨d1, d2⟩))
            (first | (go_at_call 58; refine (HSJ.out _).mono ?_; rintro e w' ⟨rfl, rfl⟩))
          all_goals
            go_wp2
            go_roundw
            case rel => exact ⟨j, x, by have := HQ.out; omega, rfl, rfl, Lib.hid (by rw [HE.out]; exact HX.out.below (Below.refl _ _).drew), hbw.drew⟩
            case measure => simp [intOf]; have := HQ.out; omega
        · rw [hs] at HSJ
          have HE := Lib.hid (show k / 2 ^ j = 2 * (k / 2 ^ (j + 1)) + 1 from by have := HJ.out; omega)
          clear hs
          go_wp2
          go_region_held3 (fun w' => w'.cell? ⟨b, 1, none⟩ = some (.pointer (some ⟨x, 0, none⟩)) ∧ w'.cell? ⟨b, 2, none⟩ = some (.pointer (some ⟨y, 0, none⟩))) (first | (with_reducible assumption) | (exact ⟨d1, d2⟩))
            (first | (go_at_call 58; refine (HSJ.out _).mono ?_; rintro e w' ⟨rfl, rfl⟩))
          all_goals
            go_wp2
            go_roundw
            case rel => exact ⟨j, y, by have := HQ.out; omega, rfl, rfl, Lib.hid (by rw [HE.out]; exact HY.out.below (Below.refl _ _).drew), hbw.drew⟩
            case measure => simp [intOf]; have := HQ.out; omega
  · have hlt : (2 : Int) ^ E ≤ (k : Int) := by rw [hs2]; omega
    rw [decide_eq_false hkE, show atD L (v : Int) k = [] from HBAD.out hkE]
    clear hatD hkE hs2 hs3
    go_enter Tryz.func30, Tryz.ntmps30
    go_wp2_with (go_at_call 27; refine HD.out.mono ?_; rintro e w' ⟨rfl, rfl⟩)
    exact bodyPost_ret (v := .tuple #[.string ⟨#[]⟩, .bool false]) (by simp [results, Tryz.results30, go_sem]) rfl ⟨rfl, Below.refl _ _⟩
theorem at_in {L : List (List UInt8)} {v k : Nat} (hv : v ≤ dep L.length) (hk : k < 2 ^ (dep L.length - v)) : atV L (v : Int) k = .tuple #[.string ⟨(dg (gl L (dep L.length)) v k).toArray⟩, .bool true] := by
  have h : atIn (dep L.length) (v : Int) k = true := by simp [atIn]; omega
  rw [atV, atD, h, if_pos rfl, Int.toNat_natCast]
theorem at_out {L : List (List UInt8)} {v k : Nat} (hk : 2 ^ (dep L.length - v) ≤ k) : atV L (v : Int) k = .tuple #[.string ⟨#[]⟩, .bool false] := by
  have h : atIn (dep L.length) (v : Int) k = false := by simp [atIn]; omega
  rw [atV, atD, h]
  rfl
end Go.Proofs.YtblimejnjboedaaGreatDoor
/- Layer 10's Prove and Size. -/
namespace Go.Proofs.YtblimejnjboedaaGreatDoor
open Go.RowKit Go.Sort
attribute [local go_sem] Oper.semAt_some

/-- append, by its run, in a fence -/
theorem wpListIn_append_run {F : Fence} {n : Nat} {P : Program} {w w2 : World} {ops : Array Oper} {rest : List Oper} {o : Oper} {a : Act} {Q : Exit → Act → World → Prop} {v u v2 : Value}
    (hg : o.guard = none) (s x : Operand) (t : TypeId) (hop : o.op = Op.call { callee := Callee.builtin Builtin.append, args := #[s, x], argTypes := #[t, t] }) (hs : a.eval s = v) (hx : a.eval x = u)
    (hrun : (Builtin.append_ #[t, t] o.type #[v, u]).run P w = .ok v2 w2) (hK : wpListIn F n P ops Q rest (a.put o.dst v2) w2) : wpListIn F n P ops Q (o :: rest) a w := by
  refine wpListIn_plain hg fun K hK' => ?_
  unfold Oper.wpIn
  refine ⟨?_, ?_⟩
  · simp [Oper.about, hop, resolve, Target.leads, Sem.run_pure]
  · rw [Oper.semAt_plain F _ _ (by rw [hop]; intro c hc'; cases hc')]
    simp [execOp, hop, resolve, invoke, builtin, hs, hx, hrun, Result.andThen]
    exact hK' _ _ hK
theorem pr_step {lo mid b4 k : Nat} {W : World} {v : Value} {xs : List Value} {X : (List UInt8)} (h4 : b4 < lo) (hlm : lo ≤ mid) (hz : mid ≤ W.heap.size) (hk : k ≤ 100000)
    (hcell : W.heap[b4]? = some (.cells #[v] 23 (0, 0))) (hown : W.ownsRow mid 9 1 v k xs) :
    ∃ (g cp : Nat) (w2 : World), (Builtin.append_ #[23, 23] 23 #[v, .slice (some ⟨W.heap.size, 0, none⟩) 1 1]).run Tryz.prog (W.alloc (.cells #[.string ⟨X.toArray⟩] 9)) = .ok (.slice (some ⟨g, 0, none⟩) (k + 1) cp) w2 ∧
      w2.cell? ⟨b4, 0, none⟩ = some v ∧ w2.frozen? ⟨b4, 0, none⟩ = false ∧
      Kept (fun j => (j < lo ∧ j ∉ [b4]) ∨ (lo ≤ j ∧ j < mid)) W (w2.setCell ⟨b4, 0, none⟩ (.slice (some ⟨g, 0, none⟩) (k + 1) cp)) ∧
      (w2.setCell ⟨b4, 0, none⟩ (.slice (some ⟨g, 0, none⟩) (k + 1) cp)).heap[b4]? = some (.cells #[.slice (some ⟨g, 0, none⟩) (k + 1) cp] 23 (0, 0)) ∧
      (w2.setCell ⟨b4, 0, none⟩ (.slice (some ⟨g, 0, none⟩) (k + 1) cp)).ownsRow mid 9 1 (.slice (some ⟨g, 0, none⟩) (k + 1) cp) (k + 1) (xs ++ [.string ⟨X.toArray⟩]) := by
  obtain ⟨i0, hi, hz0, hz1, hz2⟩ := info_parts info_str
  have ka : Kept (fun j => j < W.heap.size) W (W.alloc (.cells #[.string ⟨X.toArray⟩] 9)) := Kept.of_below (by0 W _) fun j h => h
  obtain ⟨v2, w2, hrun, ho2, hg2, _⟩ := run_append_own (P := Tryz.prog) (w := W.alloc (.cells #[.string ⟨X.toArray⟩] 9)) mid 23 23 9 i0 _ 1 16 Tryz.underlying23 hi hz0 hz1 hz2 rfl (by decide) v k xs (hown.alloc _) ⟨W.heap.size, 0, none⟩ 1 1 [.string ⟨X.toArray⟩] rfl (cell_one_new _ _ _)
    (by intro u hu; simp at hu; subst hu; rfl) (by unfold maxLen; omega) (by omega) (by simp; omega)
  obtain ⟨g, cp, rfl⟩ := ownsRow_succ ho2
  have hv4 : ∀ j, some j = v.ownBlock → mid ≤ j := fun j e => (hown.lt j e.symm).1
  have kw : Kept (fun j => j < mid) W w2 := (ka.less (fun j _ h => by omega)).grown hg2 (fun j e _ h => by have := hv4 j e; omega)
  have c2 : w2.heap[b4]? = some (.cells #[v] 23 (0, 0)) := (kw.block b4 (by omega) (by omega)).trans hcell
  have ks : Kept (fun j => (j < lo ∧ j ∉ [b4]) ∨ (lo ≤ j ∧ j < mid)) W (w2.setCell ⟨b4, 0, none⟩ (.slice (some ⟨g, 0, none⟩) (k + 1) cp)) := (kw.less (fun j _ h => by rcases h with h | h <;> omega)).setCell b4 0 _ (fun _ h => h.elim (fun h => h.2 (by simp)) (fun h => by omega))
  have k2 : Kept (fun j => j ≠ b4) w2 (w2.setCell ⟨b4, 0, none⟩ (.slice (some ⟨g, 0, none⟩) (k + 1) cp)) := (Kept.refl _ w2).setCell b4 0 _ (fun _ h => h rfl)
  exact ⟨g, cp, w2, hrun, by simp [World.cell?, c2], by simp [World.frozen?, c2], ks, lit_set _ c2, own_kept ho2 k2 (fun j hj => by omega)⟩
/-- a proof: the digests of the places that are needed -/
def proofD (L : List (List UInt8)) (P : List Nat) : List (List UInt8) := (flat (needM (lvs P (dep L.length)) (dep L.length))).map fun x => dg (gl L (dep L.length)) x.1 x.2
theorem flat_mem : ∀ (M : List (List Nat)) (s : Nat) (p : Nat × Nat), p ∈ flatFrom s M → ∃ i N, p.1 = s + i ∧ M[i]? = some N ∧ p.2 ∈ N
  | N :: M, s, p, h => by
    rw [flatFrom, List.mem_append] at h
    rcases h with h | h
    · obtain ⟨k, hk, rfl⟩ := List.mem_map.1 h
      exact ⟨0, N, rfl, rfl, hk⟩
    · obtain ⟨i, N', h1, h2, h3⟩ := flat_mem M (s + 1) p h
      exact ⟨i + 1, N', by omega, by simpa using h2, h3⟩
theorem flat_in {L : List Nat} {d : Nat} {p : Nat × Nat} (h : p ∈ flat (needM L d)) : p.1 < d ∧ p.2 < 2 ^ (d - p.1) := by
  obtain ⟨i, N, h1, h2, h3⟩ := flat_mem _ 0 p h
  have hi : i < d := by have := (List.getElem?_eq_some_iff.1 h2).1; rwa [needM_len] at this
  rw [needM_at hi] at h2
  cases h2
  rw [needOf, List.mem_filter, List.mem_range] at h3
  rw [h1, Nat.zero_add]
  exact ⟨hi, h3.1⟩
theorem proofD_len (L : List (List UInt8)) (P : List Nat) : (proofD L P).length = pre (needM (lvs P (dep L.length)) (dep L.length)) (dep L.length) := by
  rw [proofD, List.length_map, flat_len, needM_len]
theorem at_enc {L : List (List UInt8)} {P : List Nat} {k : Nat} (hd : dep L.length ≤ 16) (hk : k < (proofD L P).length) : ∃ i x : Nat, encA P (dep L.length) k = i ∧ encB P (dep L.length) k = x ∧ x < 18446744073709551616 ∧ atV L (i : Int) x = .tuple #[.string ⟨((proofD L P)[k]).toArray⟩, .bool true] := by
  have hk2 : k < (flat (needM (lvs P (dep L.length)) (dep L.length))).length := by simpa [proofD] using hk
  obtain ⟨p, hp⟩ : ∃ p, p = (flat (needM (lvs P (dep L.length)) (dep L.length)))[k] := ⟨_, rfl⟩
  have hin := flat_in (L := lvs P (dep L.length)) (d := dep L.length) (p := p) (by rw [hp]; exact List.getElem_mem hk2)
  have hpw : 2 ^ (dep L.length - p.1) ≤ 2 ^ 16 := Nat.pow_le_pow_right (by decide) (by omega)
  refine ⟨p.1, p.2, by rw [encA, List.getElem?_eq_getElem hk2, ← hp]; rfl, by rw [encB, List.getElem?_eq_getElem hk2, ← hp]; rfl, by omega, ?_⟩
  rw [at_in (by omega) hin.2]
  simp only [proofD, List.getElem_map, ← hp]
set_option maxRecDepth 100000 in
set_option maxHeartbeats 2000000 in
theorem prove_good (L : List (List UInt8)) (t : Nat) (ao : Option Addr) (cap : Nat) (P : List Nat) (w : World) (hT : TreeM L w t) (hN : Nums ao P w) (hn : P.length ≤ 1000) (hs : standsP P L.length = true) :
    Calls Tryz.prog 14 #[.pointer (some ⟨t, 0, none⟩), .slice ao P.length cap] w fun e w' => ∃ v, e = .returned (.tuple #[v, .int .i64 0]) ∧ w'.ownsRow w.heap.size 9 1 v (proofD L P).length (strC (proofD L P)) ∧ Below w.heap.size w w' := by
  have hle := hT.le
  have hpp := stands_parts hs
  have hd16 := dep_le L.length hle
  have hpd : ∀ x ∈ P, x < 2 ^ dep L.length := fun x hx => Nat.lt_of_lt_of_le (hpp.2.2 x hx) (dep_spec L.length hle).1
  have hN800 : pre (needM (lvs P (dep L.length)) (dep L.length)) (dep L.length) ≤ 1000 * 16 := by
    have h1 := pre_bound (M := needM (lvs P (dep L.length)) (dep L.length)) (B := 1000) (fun N hN => by
      obtain ⟨i, hi⟩ := List.getElem?_of_mem hN
      have h1 := need_le ((needs_M (L := lvs P (dep L.length)) (d := dep L.length) (fun x hx => by
        obtain ⟨y, hy, rfl⟩ := List.mem_map.1 hx
        exact turnB_lt hd16 (hpd y hy))).2 i N hi)
      simp only [upTo, List.length_map] at h1
      omega) (dep L.length) (by rw [needM_len]; exact Nat.le_refl _)
    omega
  have HD := Lib.hid (depthT_any L t w hT)
  have HL := Lib.hid (lenT_any L t w hT)
  have HS := Lib.hid (stand_any ao cap P L.length w hN (by omega) (by omega))
  rw [hs] at HS
  have d0 : ¬ ((dep L.length : Nat) : Int) < 0 := by omega
  have HT := Lib.hid hT
  have HN := Lib.hid hN
  refine calls_of_wp_marks Tryz.func14 rfl ?_
  simp only [Tryz.ntmps14, List.size_toArray, List.length_cons, List.length_nil, Nat.reduceAdd, Nat.reduceSub, Array.replicate_succ, Array.replicate_zero, List.push_toArray, List.append_toArray, List.nil_append, List.cons_append]
  clear hT hN hs hle
  go_upto_region 6 with (first
    | (go_at_call 27; refine HD.out.mono ?_; rintro e w' ⟨rfl, rfl⟩)
    | (go_at_call 29; refine HL.out.mono ?_; rintro e w' ⟨rfl, rfl⟩)
    | (go_at_call 28; refine HS.out.mono ?_; rintro e w1 ⟨rfl, hb⟩))
  go_upto_region 7 with fail
  go_upto_region 8 with fail
  obtain ⟨b7, hb7⟩ : ∃ b7, b7 = w1.heap.size := ⟨_, rfl⟩
  have hz1 := hb.size
  obtain ⟨wA, hA⟩ : ∃ wA, (w1.alloc (.cells #[.func (.func 30) #[.pointer (some ⟨t, 0, none⟩)] #[]] 64)).alloc (.cells #[.slice none 0 0] 23) = wA := ⟨_, rfl⟩
  have zA : wA.heap.size = b7 + 2 := by rw [← hA, World.size_alloc, World.size_alloc, ← hb7]
  have cN : wA.heap[b7 + 1]? = some (.cells #[.slice none 0 0] 23 (0, 0)) := by
    rw [← hA, show b7 + 1 = (w1.alloc (.cells #[.func (.func 30) #[.pointer (some ⟨t, 0, none⟩)] #[]] 64)).heap.size by rw [World.size_alloc, ← hb7]]
    exact heap_alloc_new _ _
  have cA : wA.heap[b7]? = some (.cells #[.func (.func 30) #[.pointer (some ⟨t, 0, none⟩)] #[]] 64 (0, 0)) := by
    rw [← hA, hb7]
    exact lit_old _ (heap_alloc_new _ _)
  have bA : Below w.heap.size w wA := by rw [← hA]; exact below_alloc (below_alloc hb _) _
  obtain ⟨wB, hB⟩ : ∃ wB, (wA.alloc (.cells #[.slice ao P.length cap] 22)).alloc (.cells #[.int .i64 (dep L.length : Int)] 3) = wB := ⟨_, rfl⟩
  have zB : wB.heap.size = b7 + 4 := by rw [← hB, World.size_alloc, World.size_alloc, zA]
  have kB : Below (b7 + 2) wA wB := by rw [← hB]; exact ((Below.refl _ _).alloc (by omega) _).alloc (by simp; omega) _
  have q1 : wB.cell? ⟨b7 + 2, 0, none⟩ = some (.slice ao P.length cap) := by
    rw [← hB, ← zA]; exact (World.cell?_alloc_lt _ _ _ (by simp)).trans (by simp)
  have q2 : wB.cell? ⟨b7 + 3, 0, none⟩ = some (.int .i64 (dep L.length : Int)) := by
    rw [← hB, show b7 + 3 = (wA.alloc (.cells #[.slice ao P.length cap] 22)).heap.size by simp; omega]; simp
  have HV := Lib.hid (mneeded_any ao P.length cap (dep L.length : Int) wA)
  rw [hB, zA] at HV
  have HF := Lib.hid (And.intro hz1 (And.intro (bA.trans (kB.mono (by omega))) (And.intro ((kB.block b7 (by omega)).trans cA) (And.intro ((kB.block (b7 + 1) (by omega)).trans cN) (And.intro q1 q2)))))
  have HZ := Lib.hid (And.intro zB hb7)
  have hw1 : w1.heap.size = b7 := hb7.symm
  clear hb hz1 zA cN cA bA zB kB q1 q2 hB hb7 HD HL HS
  rw [hA, hw1]
  clear hA hw1
  go_wp2_with (go_at_call 31; refine HV.out.mono ?_; rintro e wx ⟨rfl, hwx⟩; have hwx := hwx.symm; subst hwx)
  have HP := Lib.hid (And.intro hpp.1 hpd)
  refine wp_rangeFunc_mid (gf := 59) (lb := #[.pointer (some ⟨b7 + 2, 0, none⟩), .pointer (some ⟨b7 + 3, 0, none⟩)]) rfl (enters_of Tryz.func59 (by kernel_rfl) rfl)
    (needed_hands (b7 + 2) (b7 + 3) ao cap P (dep L.length) hpp.1 hn hpd hd16) (fun _ => rfl) (b7 + 4) HZ.out.1 [b7 + 1] ?ok
    (fun m k W => b7 + 6 ≤ m → ∃ v, W.heap[b7 + 1]? = some (.cells #[v] 23 (0, 0)) ∧ W.ownsRow m 9 1 v k (strC ((proofD L P).take k)) ∧ Kept (fun j => j < b7 + 4 ∧ j ∉ [b7 + 1]) wB W) ?keep ?start
    (fun k => { tmps := #[.pointer (some ⟨t, 0, none⟩), .slice ao P.length cap, undef, undef, .slice none 0 0, .int .i64 0, .int .i64 (dep L.length : Int), .pointer (some ⟨b7, 0, none⟩), .pointer (some ⟨b7 + 1, 0, none⟩), .int .i64 (encA P (dep L.length) k : Int), .int .u64 (encB P (dep L.length) k : Int), undef, undef, .pointer (some ⟨t, 0, none⟩), .int .i64 (dep L.length : Int), .int .i64 (dep L.length : Int), .bool (decide ((dep L.length : Int) < 0)), .slice ao P.length cap, .pointer (some ⟨t, 0, none⟩), .int .i64 (L.length : Int), .bool true, .bool false, .pointer (some ⟨t, 0, none⟩), .func (.func 30) #[.pointer (some ⟨t, 0, none⟩)] #[], .slice ao P.length cap, .int .i64 (dep L.length : Int), .func (.func 59) #[] #[.pointer (some ⟨b7 + 2, 0, none⟩), .pointer (some ⟨b7 + 3, 0, none⟩)], .int .i64 (encA P (dep L.length) k : Int), .int .u64 (encB P (dep L.length) k : Int), undef, undef, undef, undef, undef, undef, undef, undef, undef, undef, undef, undef], defers := [] }) ?assign ?body ?done
  case ok =>
    intro W' hW'
    have hz := HZ.out.1
    refine ⟨(World.cell?_of_block (a := ⟨b7 + 2, 0, none⟩) (hW'.block (b7 + 2) (by omega) ⟨by omega, by simp⟩)).trans HF.out.2.2.2.2.1, (World.cell?_of_block (a := ⟨b7 + 3, 0, none⟩) (hW'.block (b7 + 3) (by omega) ⟨by omega, by simp⟩)).trans HF.out.2.2.2.2.2, ?_⟩
    exact nums_next HN.out (HF.out.2.1.trans (hW'.below (B := w.heap.size) (by have := HF.out.1; have := HZ.out.2; omega) (fun j hj => ⟨by have := HF.out.1; have := HZ.out.2; omega, by simp; have := HF.out.1; have := HZ.out.2; omega⟩)))
  case keep =>
    intro m k W W' h hk hm
    obtain ⟨v, h1, h2, h3⟩ := h hm
    exact ⟨v, (hk.block (b7 + 1) (lit_lt h1) (.inl (by omega))).trans h1, own_kept h2 hk (fun j hj => .inr (by omega)), h3.trans (hk.less fun j _ hj => .inl hj.1)⟩
  case start =>
    intro m hm
    exact ⟨_, HF.out.2.2.2.1, by rw [List.take_zero]; exact World.ownsRow_nil _ _ _ _, Kept.refl _ _⟩
  case assign =>
    intro l k W K hK
    gi_wp2
    exact hK
  case body =>
    intro l' mid k W hm1 hm2 hkN h
    have hm6 : b7 + 6 ≤ mid := by omega
    obtain ⟨v, hcell, hown, hkp⟩ := h hm6
    have hk : k < (proofD L P).length := by rw [proofD_len]; exact hkN
    obtain ⟨i, x, e1, e2, hx, hat⟩ := at_enc hd16 hk
    have hzw := HF.out.1
    have hzb := HZ.out.2
    have c7 : W.cell? ⟨b7, 0, none⟩ = some (.func (.func 30) #[.pointer (some ⟨t, 0, none⟩)] #[]) := (World.cell?_of_block (a := ⟨b7, 0, none⟩) (hkp.block b7 (by rw [HZ.out.1]; omega) ⟨by omega, by simp⟩)).trans ((lit_cell HF.out.2.2.1 0).trans rfl)
    have c8 : W.cell? ⟨b7 + 1, 0, none⟩ = some v := (lit_cell hcell 0).trans rfl
    have hTW : TreeM L W t := HT.out.below (HF.out.2.1.trans (hkp.below (B := w.heap.size) (by rw [HZ.out.1]; omega) (fun j hj => ⟨by omega, by simp; omega⟩)))
    have hA := at_any L t (i : Int) x W hTW hx
    rw [hat] at hA
    have HA := Lib.hid hA
    have hk5 : k ≤ 100000 := by have := hN800; omega
    have HE := Lib.hid (show strC ((proofD L P).take k) ++ [.string ⟨((proofD L P)[k]).toArray⟩] = strC ((proofD L P).take (k + 1)) by
      rw [← List.take_append_getElem hk, strC, strC, List.map_append]; rfl)
    have HST := Lib.hid (And.intro hcell (And.intro hown (And.intro hkp (And.intro hm2 hk5))))
    have HM6 := Lib.hid hm6
    simp only [e1, e2]
    generalize (proofD L P)[k] = X at *
    clear hown hkp hcell hat hTW hA h hk e1 e2 hk5 hzw hzb hm1 hm2 hm6 hkN c8
    gi_wp2
    refine ⟨trivial, rfl, (CallsIn.inRound l' (callsIn_wide.2 HA.out)).mono ?_⟩
    rintro e w' ⟨rfl, hbw⟩
    have hK : Kept (fun _ => True) W w' := ⟨hbw.os, hbw.tape, hbw.output, hbw.size, fun j hj _ => hbw.block j hj⟩
    obtain ⟨hcell, hown, hkp, hm2, hk5⟩ := HST.out
    have hcell' := (hbw.block (b7 + 1) (lit_lt hcell)).trans hcell
    obtain ⟨g, cp, w2, hrun, f1, f2, f3, f4, f5⟩ := pr_step (X := X) (lo := b7 + 4) (mid := mid) (by omega) (by have := HM6.out; omega) (Nat.le_trans hm2 hbw.size) hk5 hcell' (own_kept hown hK (fun _ _ => trivial))
    rw [HE.out] at f5
    have c8 : w'.cell? ⟨b7 + 1, 0, none⟩ = some v := (lit_cell hcell' 0).trans rfl
    have HKP := Lib.hid ((hK.less (T := fun j => (j < b7 + 4 ∧ j ∉ [b7 + 1]) ∨ (b7 + 4 ≤ j ∧ j < mid)) fun _ _ _ => trivial).trans f3)
    have HFI := Lib.hid (And.intro f4 (And.intro f5 (hkp.trans (HKP.out.less fun j _ hj => .inl hj))))
    clear hown hkp hcell hcell' hK f3 f4 f5 hbw hm2 hk5 c7
    gi_wp2_with (gi_at_builtin; refine wpListIn_append_run rfl (.tmp 36) (.tmp 38) 23 rfl rfl rfl hrun ?_)
    exact ⟨HKP.out, fun _ => ⟨_, HFI.out⟩⟩
  case done =>
    intro m W hm h hkp hdef
    obtain ⟨v, h1, h2, h3⟩ := h (by omega)
    rw [← proofD_len, List.take_length] at h2
    have c8 : W.cell? ⟨b7 + 1, 0, none⟩ = some v := (lit_cell h1 0).trans rfl
    have HR := Lib.hid h2
    have HK := Lib.hid hkp
    have HM := Lib.hid hm
    clear h1 h2 h3 hkp h hm
    go_wp2
    refine ⟨by simp, .inl ⟨_, _, rfl, run_takeDeferred hdef, ?_⟩⟩
    have kp : Kept (fun j => j ≠ b7 + 4) W (W.putObj (b7 + 4) (.deferred none)) := Kept.putObj _ _ _ _ (by simp)
    have hbw := (HK.out.trans (kp.less (T := fun j => j < b7 + 4 ∧ j ∉ [b7 + 1]) fun j _ h => by omega)).below (B := w.heap.size) (by have := HF.out.1; have := HZ.out; omega) (fun j h => ⟨by have := HF.out.1; have := HZ.out; omega, by simp; have := HF.out.1; have := HZ.out; omega⟩)
    refine ⟨.tuple #[v, .int .i64 0], by simp [results, Tryz.results14, go_sem], v, rfl, row_base (own_kept HR.out kp fun j h => by have := HM.out; omega) (by have := HF.out.1; have := HZ.out; have := HM.out; omega), HF.out.2.1.trans hbw⟩
theorem sizeD_eq (L : List (List UInt8)) (P : List Nat) : (proofD L P).length = sizeD P L.length := proofD_len L P
end Go.Proofs.YtblimejnjboedaaGreatDoor
/- Hashes of one text, of two; small trees' roots and digests. -/
namespace Go.Proofs.YtblimejnjboedaaGreatDoor
open Go.RowKit

theorem gl_in {L : List (List UInt8)} {d k i : Nat} (h : turnB k (d : Int) = i) (hi : i < L.length) : gl L d k = hashL leafT [L[i]] := by
  subst h
  exact dif_pos hi
theorem gl_out {L : List (List UInt8)} {d k : Nat} (h : ¬ turnB k (d : Int) < L.length) : gl L d k = hashL noneT [] := dif_neg h
theorem root_0 : rootD [] = hashL noneT [] := by
  unfold rootD
  rw [show dep ([] : List (List UInt8)).length = 0 by decide +kernel]
  exact gl_out (by decide +kernel)
theorem root_1 (a : (List UInt8)) : rootD [a] = hashL leafT [a] := by
  unfold rootD
  rw [show dep [a].length = 0 from show dep 1 = 0 by decide +kernel]
  exact gl_in (i := 0) (by decide +kernel) (by simp)
theorem root_2 (a b : (List UInt8)) : rootD [a, b] = hashL nodeT [hashL leafT [a], hashL leafT [b]] := by
  unfold rootD
  rw [show dep [a, b].length = 1 from show dep 2 = 1 by decide +kernel]
  show hashL nodeT [gl [a, b] 1 0, gl [a, b] 1 1] = _
  rw [gl_in (i := 0) (by decide +kernel) (by simp), gl_in (i := 1) (by decide +kernel) (by simp)]
  rfl
theorem root_3 (a b c : (List UInt8)) : rootD [a, b, c] = hashL nodeT [hashL nodeT [hashL leafT [a], hashL leafT [c]], hashL nodeT [hashL leafT [b], hashL noneT []]] := by
  unfold rootD
  rw [show dep [a, b, c].length = 2 from show dep 3 = 2 by decide +kernel]
  show hashL nodeT [hashL nodeT [gl [a, b, c] 2 0, gl [a, b, c] 2 1], hashL nodeT [gl [a, b, c] 2 2, gl [a, b, c] 2 3]] = _
  rw [gl_in (k := 0) (i := 0) (by decide +kernel) (by simp), gl_in (k := 1) (i := 2) (by decide +kernel) (by simp), gl_in (k := 2) (i := 1) (by decide +kernel) (by simp), gl_out (k := 3) (show ¬ turnB 3 ((2 : Nat) : Int) < 3 by decide +kernel)]
  rfl
theorem at_1 (a : (List UInt8)) : atV [a] 0 0 = .tuple #[.string ⟨(hashL leafT [a]).toArray⟩, .bool true] := by
  have h : atIn (dep [a].length) 0 0 = true := show atIn (dep 1) 0 0 = true by decide +kernel
  rw [atV, atD, h, if_pos rfl, show dg (gl [a] (dep [a].length)) (Int.toNat 0) 0 = hashL leafT [a] from gl_in (i := 0) (show turnB 0 (dep 1 : Int) = 0 by decide +kernel) (by simp)]
theorem at_1b (a : (List UInt8)) : atV [a] 0 1 = .tuple #[.string ⟨#[]⟩, .bool false] := by
  have h : atIn (dep [a].length) 0 1 = false := show atIn (dep 1) 0 1 = false by decide +kernel
  rw [atV, atD, h]
  rfl
theorem at_1c (a : (List UInt8)) : atV [a] 1 0 = .tuple #[.string ⟨#[]⟩, .bool false] := by
  have h : atIn (dep [a].length) 1 0 = false := show atIn (dep 1) 1 0 = false by decide +kernel
  rw [atV, atD, h]
  rfl
end Go.Proofs.YtblimejnjboedaaGreatDoor
