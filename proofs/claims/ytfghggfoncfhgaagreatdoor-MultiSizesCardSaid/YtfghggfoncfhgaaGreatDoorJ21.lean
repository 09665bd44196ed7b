/- Layer 10's Prove and Size. -/
import Derived.Test.YtfghggfoncfhgaaGreatDoorJ19
import Derived.Test.YtfghggfoncfhgaaGreatDoorJ20
import Derived.Laws.EntriesVeiled
namespace Go.Proofs.YtfghggfoncfhgaaGreatDoor
open Go.RowKit Go.Sort
attribute [local go_sem] Oper.semAt_some

/-- append, by its run, in a fence -/
theorem wpListIn_append_run {F : Fence} {n : Nat} {P : Program} {w w2 : World} {ops : Array Oper} {rest : List Oper} {o : Oper} {a : Act} {Q : Exit → Act → World → Prop} {v u v2 : Value}
    (hg : o.guard = none) (s x : Operand) (t : TypeId) (hop : o.op = Op.call { callee := Callee.builtin Builtin.append, args := #[s, x], argTypes := #[t, t] }) (hs : a.eval s = v) (hx : a.eval x = u)
    (hrun : (Builtin.append_ #[t, t] o.type #[v, u]).run P w = .ok v2 w2) (hK : wpListIn F n P ops Q rest (a.put o.dst v2) w2) : wpListIn F n P ops Q (o :: rest) a w := by
  refine wpListIn_plain hg fun K hK' => ?_
  unfold Oper.wpIn
  refine ⟨?_, ?_⟩
  · simp [Oper.about, hop, resolve, Target.leads, Sem.run_pure]
  · rw [Oper.semAt_plain F _ _ (by rw [hop]; intro c hc'; cases hc')]
    simp [execOp, hop, resolve, invoke, builtin, hs, hx, hrun, Result.andThen]
    exact hK' _ _ hK
theorem pr_step {lo mid b4 k : Nat} {W : World} {v : Value} {xs : List Value} {X : (List UInt8)} (h4 : b4 < lo) (hlm : lo ≤ mid) (hz : mid ≤ W.heap.size) (hk : k ≤ 100000)
    (hcell : W.heap[b4]? = some (.cells #[v] 22 (0, 0))) (hown : W.ownsRow mid 9 1 v k xs) :
    ∃ (g cp : Nat) (w2 : World), (Builtin.append_ #[22, 22] 22 #[v, .slice (some ⟨W.heap.size, 0, none⟩) 1 1]).run Tryz.prog (W.alloc (.cells #[.string ⟨X.toArray⟩] 9)) = .ok (.slice (some ⟨g, 0, none⟩) (k + 1) cp) w2 ∧
      w2.cell? ⟨b4, 0, none⟩ = some v ∧ w2.frozen? ⟨b4, 0, none⟩ = false ∧
      Kept (fun j => (j < lo ∧ j ∉ [b4]) ∨ (lo ≤ j ∧ j < mid)) W (w2.setCell ⟨b4, 0, none⟩ (.slice (some ⟨g, 0, none⟩) (k + 1) cp)) ∧
      (w2.setCell ⟨b4, 0, none⟩ (.slice (some ⟨g, 0, none⟩) (k + 1) cp)).heap[b4]? = some (.cells #[.slice (some ⟨g, 0, none⟩) (k + 1) cp] 22 (0, 0)) ∧
      (w2.setCell ⟨b4, 0, none⟩ (.slice (some ⟨g, 0, none⟩) (k + 1) cp)).ownsRow mid 9 1 (.slice (some ⟨g, 0, none⟩) (k + 1) cp) (k + 1) (xs ++ [.string ⟨X.toArray⟩]) := by
  obtain ⟨i0, hi, hz0, hz1, hz2⟩ := info_parts info_str
  have ka : Kept (fun j => j < W.heap.size) W (W.alloc (.cells #[.string ⟨X.toArray⟩] 9)) := Kept.of_below (by0 W _) fun j h => h
  obtain ⟨v2, w2, hrun, ho2, hg2, _⟩ := run_append_own (P := Tryz.prog) (w := W.alloc (.cells #[.string ⟨X.toArray⟩] 9)) mid 22 22 9 i0 _ 1 16 Tryz.underlying22 hi hz0 hz1 hz2 rfl (by decide) v k xs (hown.alloc _) ⟨W.heap.size, 0, none⟩ 1 1 [.string ⟨X.toArray⟩] rfl (cell_one_new _ _ _)
    (by intro u hu; simp at hu; subst hu; rfl) (by unfold maxLen; omega) (by omega) (by simp; omega)
  obtain ⟨g, cp, rfl⟩ := ownsRow_succ ho2
  have hv4 : ∀ j, some j = v.ownBlock → mid ≤ j := fun j e => (hown.lt j e.symm).1
  have kw : Kept (fun j => j < mid) W w2 := (ka.less (fun j _ h => by omega)).grown hg2 (fun j e _ h => by have := hv4 j e; omega)
  have c2 : w2.heap[b4]? = some (.cells #[v] 22 (0, 0)) := (kw.block b4 (by omega) (by omega)).trans hcell
  have ks : Kept (fun j => (j < lo ∧ j ∉ [b4]) ∨ (lo ≤ j ∧ j < mid)) W (w2.setCell ⟨b4, 0, none⟩ (.slice (some ⟨g, 0, none⟩) (k + 1) cp)) := (kw.less (fun j _ h => by rcases h with h | h <;> omega)).setCell b4 0 _ (fun _ h => h.elim (fun h => h.2 (by simp)) (fun h => by omega))
  have k2 : Kept (fun j => j ≠ b4) w2 (w2.setCell ⟨b4, 0, none⟩ (.slice (some ⟨g, 0, none⟩) (k + 1) cp)) := (Kept.refl _ w2).setCell b4 0 _ (fun _ h => h rfl)
  exact ⟨g, cp, w2, hrun, by simp [World.cell?, c2], by simp [World.frozen?, c2], ks, lit_set _ c2, own_kept ho2 k2 (fun j hj => by omega)⟩
/-- a proof: the digests of the places that are needed -/
def proofD (L : List (List UInt8)) (P : List Nat) : List (List UInt8) := (flat (needM (lvs P (dep L.length)) (dep L.length))).map fun x => dg (gl L (dep L.length)) x.1 x.2
theorem stands_parts {P : List Nat} {n : Nat} (h : standsP P n = true) : P ≠ [] ∧ P.Pairwise (· < ·) ∧ ∀ x ∈ P, x < n := of_decide_eq_true h
theorem flat_mem : ∀ (M : List (List Nat)) (s : Nat) (p : Nat × Nat), p ∈ flatFrom s M → ∃ i N, p.1 = s + i ∧ M[i]? = some N ∧ p.2 ∈ N
  | N :: M, s, p, h => by
    rw [flatFrom, List.mem_append] at h
    rcases h with h | h
    · obtain ⟨k, hk, rfl⟩ := List.mem_map.1 h
      exact ⟨0, N, rfl, rfl, hk⟩
    · obtain ⟨i, N', h1, h2, h3⟩ := flat_mem M (s + 1) p h
      exact ⟨i + 1, N', by omega, by simpa using h2, h3⟩
theorem flat_in {L : List Nat} {d : Nat} {p : Nat × Nat} (h : p ∈ flat (needM L d)) : p.1 < d ∧ p.2 < 2 ^ (d - p.1) := by
  obtain ⟨i, N, h1, h2, h3⟩ := flat_mem _ 0 p h
  have hi : i < d := by have := (List.getElem?_eq_some_iff.1 h2).1; rwa [needM_len] at this
  rw [needM_at hi] at h2
  cases h2
  rw [needOf, List.mem_filter, List.mem_range] at h3
  rw [h1, Nat.zero_add]
  exact ⟨hi, h3.1⟩
theorem proofD_len (L : List (List UInt8)) (P : List Nat) : (proofD L P).length = pre (needM (lvs P (dep L.length)) (dep L.length)) (dep L.length) := by
  rw [proofD, List.length_map, flat_len, needM_len]
theorem at_enc {L : List (List UInt8)} {P : List Nat} {k : Nat} (hd : dep L.length ≤ 16) (hk : k < (proofD L P).length) : ∃ i x : Nat, encA P (dep L.length) k = i ∧ encB P (dep L.length) k = x ∧ x < 18446744073709551616 ∧ atV L (i : Int) x = .tuple #[.string ⟨((proofD L P)[k]).toArray⟩, .bool true] := by
  have hk2 : k < (flat (needM (lvs P (dep L.length)) (dep L.length))).length := by simpa [proofD] using hk
  obtain ⟨p, hp⟩ : ∃ p, p = (flat (needM (lvs P (dep L.length)) (dep L.length)))[k] := ⟨_, rfl⟩
  have hin := flat_in (L := lvs P (dep L.length)) (d := dep L.length) (p := p) (by rw [hp]; exact List.getElem_mem hk2)
  have hpw : 2 ^ (dep L.length - p.1) ≤ 2 ^ 16 := Nat.pow_le_pow_right (by decide) (by omega)
  refine ⟨p.1, p.2, by rw [encA, List.getElem?_eq_getElem hk2, ← hp]; rfl, by rw [encB, List.getElem?_eq_getElem hk2, ← hp]; rfl, by omega, ?_⟩
  rw [at_in (by omega) hin.2]
  simp only [proofD, List.getElem_map, ← hp]
set_option maxRecDepth 100000 in
set_option maxHeartbeats 2000000 in
theorem prove_good (L : List (List UInt8)) (t : Nat) (ao : Option Addr) (cap : Nat) (P : List Nat) (w : World) (hT : TreeM L w t) (hN : Nums ao P w) (hn : P.length ≤ 49) (hs : standsP P L.length = true) :
    Calls Tryz.prog 8 #[.pointer (some ⟨t, 0, none⟩), .slice ao P.length cap] w fun e w' => ∃ v, e = .returned (.tuple #[v, .int .i64 0]) ∧ w'.ownsRow w.heap.size 9 1 v (proofD L P).length (strC (proofD L P)) ∧ Below w.heap.size w w' := by
  have hle := hT.le
  have hpp := stands_parts hs
  have hd16 := dep_le L.length hle
  have hpd : ∀ x ∈ P, x < 2 ^ dep L.length := fun x hx => Nat.lt_of_lt_of_le (hpp.2.2 x hx) (dep_spec L.length hle).1
  have hN800 : pre (needM (lvs P (dep L.length)) (dep L.length)) (dep L.length) ≤ 49 * 16 := by
    have h1 := pre_bound (M := needM (lvs P (dep L.length)) (dep L.length)) (B := 49) (fun N hN => by
      obtain ⟨i, hi⟩ := List.getElem?_of_mem hN
      have h1 := need_le ((needs_M (L := lvs P (dep L.length)) (d := dep L.length) (fun x hx => by
        obtain ⟨y, hy, rfl⟩ := List.mem_map.1 hx
        exact turnB_lt hd16 (hpd y hy))).2 i N hi)
      simp only [upTo, List.length_map] at h1
      omega) (dep L.length) (by rw [needM_len]; exact Nat.le_refl _)
    omega
  have HD := Lib.hid (depthT_any L t w hT)
  have HL := Lib.hid (lenT_any L t w hT)
  have HS := Lib.hid (stand_any ao cap P L.length w hN (by omega) (by omega))
  rw [hs] at HS
  have d0 : ¬ ((dep L.length : Nat) : Int) < 0 := by omega
  have HT := Lib.hid hT
  have HN := Lib.hid hN
  refine calls_of_wp_marks Tryz.func8 rfl ?_
  simp only [Tryz.ntmps8, List.size_toArray, List.length_cons, List.length_nil, Nat.reduceAdd, Nat.reduceSub, Array.replicate_succ, Array.replicate_zero, List.push_toArray, List.append_toArray, List.nil_append, List.cons_append]
  clear hT hN hs hle
  go_upto_region 6 with (first
    | (go_at_call 16; refine HD.out.mono ?_; rintro e w' ⟨rfl, rfl⟩)
    | (go_at_call 18; refine HL.out.mono ?_; rintro e w' ⟨rfl, rfl⟩)
    | (go_at_call 17; refine HS.out.mono ?_; rintro e w1 ⟨rfl, hb⟩))
  go_upto_region 7 with fail
  go_upto_region 8 with fail
  obtain ⟨b7, hb7⟩ : ∃ b7, b7 = w1.heap.size := ⟨_, rfl⟩
  have hz1 := hb.size
  obtain ⟨wA, hA⟩ : ∃ wA, (w1.alloc (.cells #[.func (.func 19) #[.pointer (some ⟨t, 0, none⟩)] #[]] 48)).alloc (.cells #[.slice none 0 0] 22) = wA := ⟨_, rfl⟩
  have zA : wA.heap.size = b7 + 2 := by rw [← hA, World.size_alloc, World.size_alloc, ← hb7]
  have cN : wA.heap[b7 + 1]? = some (.cells #[.slice none 0 0] 22 (0, 0)) := by
    rw [← hA, show b7 + 1 = (w1.alloc (.cells #[.func (.func 19) #[.pointer (some ⟨t, 0, none⟩)] #[]] 48)).heap.size by rw [World.size_alloc, ← hb7]]
    exact heap_alloc_new _ _
  have cA : wA.heap[b7]? = some (.cells #[.func (.func 19) #[.pointer (some ⟨t, 0, none⟩)] #[]] 48 (0, 0)) := by
    rw [← hA, hb7]
    exact lit_old _ (heap_alloc_new _ _)
  have bA : Below w.heap.size w wA := by rw [← hA]; exact below_alloc (below_alloc hb _) _
  obtain ⟨wB, hB⟩ : ∃ wB, (wA.alloc (.cells #[.slice ao P.length cap] 24)).alloc (.cells #[.int .i64 (dep L.length : Int)] 3) = wB := ⟨_, rfl⟩
  have zB : wB.heap.size = b7 + 4 := by rw [← hB, World.size_alloc, World.size_alloc, zA]
  have kB : Below (b7 + 2) wA wB := by rw [← hB]; exact ((Below.refl _ _).alloc (by omega) _).alloc (by simp; omega) _
  have q1 : wB.cell? ⟨b7 + 2, 0, none⟩ = some (.slice ao P.length cap) := by
    rw [← hB, ← zA]; exact (World.cell?_alloc_lt _ _ _ (by simp)).trans (by simp)
  have q2 : wB.cell? ⟨b7 + 3, 0, none⟩ = some (.int .i64 (dep L.length : Int)) := by
    rw [← hB, show b7 + 3 = (wA.alloc (.cells #[.slice ao P.length cap] 24)).heap.size by simp; omega]; simp
  have HV := Lib.hid (mneeded_any ao P.length cap (dep L.length : Int) wA)
  rw [hB, zA] at HV
  have HF := Lib.hid (And.intro hz1 (And.intro (bA.trans (kB.mono (by omega))) (And.intro ((kB.block b7 (by omega)).trans cA) (And.intro ((kB.block (b7 + 1) (by omega)).trans cN) (And.intro q1 q2)))))
  have HZ := Lib.hid (And.intro zB hb7)
  have hw1 : w1.heap.size = b7 := hb7.symm
  clear hb hz1 zA cN cA bA zB kB q1 q2 hB hb7 HD HL HS
  rw [hA, hw1]
  clear hA hw1
  go_wp2_with (go_at_call 20; refine HV.out.mono ?_; rintro e wx ⟨rfl, hwx⟩; have hwx := hwx.symm; subst hwx)
  have HP := Lib.hid (And.intro hpp.1 hpd)
  refine wp_rangeFunc_mid (gf := 39) (lb := #[.pointer (some ⟨b7 + 2, 0, none⟩), .pointer (some ⟨b7 + 3, 0, none⟩)]) rfl (enters_of Tryz.func39 (by kernel_rfl) rfl)
    (needed_hands (b7 + 2) (b7 + 3) ao cap P (dep L.length) hpp.1 hn hpd hd16) (fun _ => rfl) (b7 + 4) HZ.out.1 [b7 + 1] ?ok
    (fun m k W => b7 + 6 ≤ m → ∃ v, W.heap[b7 + 1]? = some (.cells #[v] 22 (0, 0)) ∧ W.ownsRow m 9 1 v k (strC ((proofD L P).take k)) ∧ Kept (fun j => j < b7 + 4 ∧ j ∉ [b7 + 1]) wB W) ?keep ?start
    (fun k => { tmps := #[.pointer (some ⟨t, 0, none⟩), .slice ao P.length cap, undef, undef, .slice none 0 0, .int .i64 0, .int .i64 (dep L.length : Int), .pointer (some ⟨b7, 0, none⟩), .pointer (some ⟨b7 + 1, 0, none⟩), .int .i64 (encA P (dep L.length) k : Int), .int .u64 (encB P (dep L.length) k : Int), undef, undef, .pointer (some ⟨t, 0, none⟩), .int .i64 (dep L.length : Int), .int .i64 (dep L.length : Int), .bool (decide ((dep L.length : Int) < 0)), .slice ao P.length cap, .pointer (some ⟨t, 0, none⟩), .int .i64 (L.length : Int), .bool true, .bool false, .pointer (some ⟨t, 0, none⟩), .func (.func 19) #[.pointer (some ⟨t, 0, none⟩)] #[], .slice ao P.length cap, .int .i64 (dep L.length : Int), .func (.func 39) #[] #[.pointer (some ⟨b7 + 2, 0, none⟩), .pointer (some ⟨b7 + 3, 0, none⟩)], .int .i64 (encA P (dep L.length) k : Int), .int .u64 (encB P (dep L.length) k : Int), undef, undef, undef, undef, undef, undef, undef, undef, undef, undef, undef, undef], defers := [] }) ?assign ?body ?done
  case ok =>
    intro W' hW'
    have hz := HZ.out.1
    refine ⟨(World.cell?_of_block (a := ⟨b7 + 2, 0, none⟩) (hW'.block (b7 + 2) (by omega) ⟨by omega, by simp⟩)).trans HF.out.2.2.2.2.1, (World.cell?_of_block (a := ⟨b7 + 3, 0, none⟩) (hW'.block (b7 + 3) (by omega) ⟨by omega, by simp⟩)).trans HF.out.2.2.2.2.2, ?_⟩
    exact nums_next HN.out (HF.out.2.1.trans (hW'.below (B := w.heap.size) (by have := HF.out.1; have := HZ.out.2; omega) (fun j hj => ⟨by have := HF.out.1; have := HZ.out.2; omega, by simp; have := HF.out.1; have := HZ.out.2; omega⟩)))
  case keep =>
    intro m k W W' h hk hm
    obtain ⟨v, h1, h2, h3⟩ := h hm
    exact ⟨v, (hk.block (b7 + 1) (lit_lt h1) (.inl (by omega))).trans h1, own_kept h2 hk (fun j hj => .inr (by omega)), h3.trans (hk.less fun j _ hj => .inl hj.1)⟩
  case start =>
    intro m hm
    exact ⟨_, HF.out.2.2.2.1, by rw [List.take_zero]; exact World.ownsRow_nil _ _ _ _, Kept.refl _ _⟩
  case assign =>
    intro l k W K hK
    gi_wp2
    exact hK
  case body =>
    intro l' mid k W hm1 hm2 hkN h
    have hm6 : b7 + 6 ≤ mid := by omega
    obtain ⟨v, hcell, hown, hkp⟩ := h hm6
    have hk : k < (proofD L P).length := by rw [proofD_len]; exact hkN
    obtain ⟨i, x, e1, e2, hx, hat⟩ := at_enc hd16 hk
    have hzw := HF.out.1
    have hzb := HZ.out.2
    have c7 : W.cell? ⟨b7, 0, none⟩ = some (.func (.func 19) #[.pointer (some ⟨t, 0, none⟩)] #[]) := (World.cell?_of_block (a := ⟨b7, 0, none⟩) (hkp.block b7 (by rw [HZ.out.1]; omega) ⟨by omega, by simp⟩)).trans ((lit_cell HF.out.2.2.1 0).trans rfl)
    have c8 : W.cell? ⟨b7 + 1, 0, none⟩ = some v := (lit_cell hcell 0).trans rfl
    have hTW : TreeM L W t := HT.out.below (HF.out.2.1.trans (hkp.below (B := w.heap.size) (by rw [HZ.out.1]; omega) (fun j hj => ⟨by omega, by simp; omega⟩)))
    have hA := at_any L t (i : Int) x W hTW hx
    rw [hat] at hA
    have HA := Lib.hid hA
    have hk5 : k ≤ 100000 := by have := hN800; omega
    have HE := Lib.hid (show strC ((proofD L P).take k) ++ [.string ⟨((proofD L P)[k]).toArray⟩] = strC ((proofD L P).take (k + 1)) by
      rw [← List.take_append_getElem hk, strC, strC, List.map_append]; rfl)
    have HST := Lib.hid (And.intro hcell (And.intro hown (And.intro hkp (And.intro hm2 hk5))))
    have HM6 := Lib.hid hm6
    simp only [e1, e2]
    generalize (proofD L P)[k] = X at *
    clear hown hkp hcell hat hTW hA h hk e1 e2 hk5 hzw hzb hm1 hm2 hm6 hkN c8
    gi_wp2
    refine ⟨trivial, rfl, (CallsIn.inRound l' (callsIn_wide.2 HA.out)).mono ?_⟩
    rintro e w' ⟨rfl, hbw⟩
    have hK : Kept (fun _ => True) W w' := ⟨hbw.os, hbw.tape, hbw.output, hbw.size, fun j hj _ => hbw.block j hj⟩
    obtain ⟨hcell, hown, hkp, hm2, hk5⟩ := HST.out
    have hcell' := (hbw.block (b7 + 1) (lit_lt hcell)).trans hcell
    obtain ⟨g, cp, w2, hrun, f1, f2, f3, f4, f5⟩ := pr_step (X := X) (lo := b7 + 4) (mid := mid) (by omega) (by have := HM6.out; omega) (Nat.le_trans hm2 hbw.size) hk5 hcell' (own_kept hown hK (fun _ _ => trivial))
    rw [HE.out] at f5
    have c8 : w'.cell? ⟨b7 + 1, 0, none⟩ = some v := (lit_cell hcell' 0).trans rfl
    have HKP := Lib.hid ((hK.less (T := fun j => (j < b7 + 4 ∧ j ∉ [b7 + 1]) ∨ (b7 + 4 ≤ j ∧ j < mid)) fun _ _ _ => trivial).trans f3)
    have HFI := Lib.hid (And.intro f4 (And.intro f5 (hkp.trans (HKP.out.less fun j _ hj => .inl hj))))
    clear hown hkp hcell hcell' hK f3 f4 f5 hbw hm2 hk5 c7
    gi_wp2_with (gi_at_builtin; refine wpListIn_append_run rfl (.tmp 36) (.tmp 38) 22 rfl rfl rfl hrun ?_)
    exact ⟨HKP.out, fun _ => ⟨_, HFI.out⟩⟩
  case done =>
    intro m W hm h hkp hdef
    obtain ⟨v, h1, h2, h3⟩ := h (by omega)
    rw [← proofD_len, List.take_length] at h2
    have c8 : W.cell? ⟨b7 + 1, 0, none⟩ = some v := (lit_cell h1 0).trans rfl
    have HR := Lib.hid h2
    have HK := Lib.hid hkp
    have HM := Lib.hid hm
    clear h1 h2 h3 hkp h hm
    go_wp2
    refine ⟨by simp, .inl ⟨_, _, rfl, run_takeDeferred hdef, ?_⟩⟩
    have kp : Kept (fun j => j ≠ b7 + 4) W (W.putObj (b7 + 4) (.deferred none)) := Kept.putObj _ _ _ _ (by simp)
    have hbw := (HK.out.trans (kp.less (T := fun j => j < b7 + 4 ∧ j ∉ [b7 + 1]) fun j _ h => by omega)).below (B := w.heap.size) (by have := HF.out.1; have := HZ.out; omega) (fun j h => ⟨by have := HF.out.1; have := HZ.out; omega, by simp; have := HF.out.1; have := HZ.out; omega⟩)
    refine ⟨.tuple #[v, .int .i64 0], by simp [results, Tryz.results8, go_sem], v, rfl, row_base (own_kept HR.out kp fun j h => by have := HM.out; omega) (by have := HF.out.1; have := HZ.out; have := HM.out; omega), HF.out.2.1.trans hbw⟩
end Go.Proofs.YtfghggfoncfhgaaGreatDoor
/- Prove where it refuses; Size. -/
namespace Go.Proofs.YtfghggfoncfhgaaGreatDoor
open Go.RowKit Go.Sort
attribute [local go_sem] Oper.semAt_some

theorem prove_none (v : Value) (w : World) : Calls Tryz.prog 8 #[.pointer none, v] w fun e w' => e = .returned (.tuple #[.slice none 0 0, .int .i64 1]) ∧ w = w' := by
  have HD := Lib.hid (depth_none w)
  go_enter Tryz.func8, Tryz.ntmps8
  go_wp2_with (go_at_call 16; refine HD.out.mono ?_; rintro e w' ⟨rfl, rfl⟩)
  exact bodyPost_ret (v := .tuple #[.slice none 0 0, .int .i64 1]) (by simp [results, Tryz.results8, go_sem]) rfl ⟨rfl, rfl⟩
theorem prove_bad (L : List (List UInt8)) (t : Nat) (ao : Option Addr) (cap : Nat) (P : List Nat) (w : World) (hT : TreeM L w t) (hN : Nums ao P w) (hn : P.length ≤ 100000) (hs : standsP P L.length = false) :
    Calls Tryz.prog 8 #[.pointer (some ⟨t, 0, none⟩), .slice ao P.length cap] w fun e w' => e = .returned (.tuple #[.slice none 0 0, .int .i64 2]) ∧ Below w.heap.size w w' := by
  have hle := hT.le
  have HD := Lib.hid (depthT_any L t w hT)
  have HL := Lib.hid (lenT_any L t w hT)
  have HS := Lib.hid (stand_any ao cap P L.length w hN hn (by omega))
  rw [hs] at HS
  have d0 : ¬ ((dep L.length : Nat) : Int) < 0 := by omega
  clear hT hN hs hle
  go_enter Tryz.func8, Tryz.ntmps8
  go_wp2_with (first
    | (go_at_call 16; refine HD.out.mono ?_; rintro e w' ⟨rfl, rfl⟩)
    | (go_at_call 18; refine HL.out.mono ?_; rintro e w' ⟨rfl, rfl⟩)
    | (go_at_call 17; refine HS.out.mono ?_; rintro e w1 ⟨rfl, hb⟩))
  exact bodyPost_ret (v := .tuple #[.slice none 0 0, .int .i64 2]) (by simp [results, Tryz.results8, go_sem]) rfl ⟨rfl, hb⟩
theorem size_bad (n : Int) (hn : -9223372036854775808 ≤ n ∧ n ≤ 9223372036854775807) (ao : Option Addr) (cap : Nat) (P : List Nat) (w : World) (hN : Nums ao P w) (hP : P.length ≤ 100000) (hs : n < 0 ∨ 65536 < n ∨ standsP P n.toNat = false) :
    Calls Tryz.prog 12 #[.int .i64 n, .slice ao P.length cap] w fun e w' => e = .returned (.tuple #[.int .i64 0, .int .i64 2]) ∧ Below w.heap.size w w' := by
  have HD := Lib.hid (fun wz => depth_any n hn wz)
  by_cases h1 : n < 0 ∨ 65536 < n
  · rw [depthV, if_pos h1] at HD
    clear h1 hs
    go_enter Tryz.func12, Tryz.ntmps12
    go_wp2_with (go_at_call 29; refine (HD.out _).mono ?_; rintro e w' ⟨rfl, rfl⟩)
    exact bodyPost_ret (v := .tuple #[.int .i64 0, .int .i64 2]) (by simp [results, Tryz.results12, go_sem]) rfl ⟨rfl, Below.refl _ _⟩
  · obtain ⟨k, rfl⟩ : ∃ k : Nat, n = (k : Int) := ⟨n.toNat, by omega⟩
    have HS := Lib.hid (stand_any ao cap P k w hN hP (by omega))
    have hsf : standsP P k = false := by
      rcases hs with h | h | h
      · omega
      · omega
      · simpa using h
    rw [hsf] at HS
    rw [depthV, if_neg h1, Int.toNat_natCast] at HD
    have d0 : ¬ ((dep k : Nat) : Int) < 0 := by omega
    clear h1 hs hN hsf
    go_enter Tryz.func12, Tryz.ntmps12
    go_wp2_with (first
      | (go_at_call 29; refine (HD.out _).mono ?_; rintro e w' ⟨rfl, rfl⟩)
      | (go_at_call 17; refine HS.out.mono ?_; rintro e w1 ⟨rfl, hb⟩))
    exact bodyPost_ret (v := .tuple #[.int .i64 0, .int .i64 2]) (by simp [results, Tryz.results12, go_sem]) rfl ⟨rfl, hb⟩
/-- how many digests a proof has -/
def sizeD (P : List Nat) (n : Nat) : Nat := pre (needM (lvs P (dep n)) (dep n)) (dep n)
theorem sizeD_le {P : List Nat} {n : Nat} (h : standsP P n = true) (hn : n ≤ 65536) : sizeD P n ≤ P.length * dep n := by
  have hpp := stands_parts h
  refine pre_bound (fun N hN => ?_) _ (by rw [needM_len]; exact Nat.le_refl _)
  obtain ⟨i, hi⟩ := List.getElem?_of_mem hN
  have h1 := need_le ((needs_M (L := lvs P (dep n)) (d := dep n) (fun x hx => by
    obtain ⟨y, hy, rfl⟩ := List.mem_map.1 hx
    exact turnB_lt (dep_le n hn) (Nat.lt_of_lt_of_le (hpp.2.2 y hy) (dep_spec n hn).1))).2 i N hi)
  simpa [upTo] using h1
set_option maxRecDepth 100000 in
set_option maxHeartbeats 2000000 in
theorem size_good (n : Nat) (hn : n ≤ 65536) (ao : Option Addr) (cap : Nat) (P : List Nat) (w : World) (hN : Nums ao P w) (hP : P.length ≤ 49) (hs : standsP P n = true) :
    Calls Tryz.prog 12 #[.int .i64 (n : Int), .slice ao P.length cap] w fun e w' => e = .returned (.tuple #[.int .i64 (sizeD P n : Int), .int .i64 0]) ∧ Below w.heap.size w w' := by
  have hpp := stands_parts hs
  have hd16 := dep_le n hn
  have hpd : ∀ x ∈ P, x < 2 ^ dep n := fun x hx => Nat.lt_of_lt_of_le (hpp.2.2 x hx) (dep_spec n hn).1
  have hle : sizeD P n ≤ 49 * 16 := Nat.le_trans (sizeD_le hs hn) (Nat.mul_le_mul hP hd16)
  have HD := Lib.hid (fun wz => depth_any (n : Int) (by omega) wz)
  rw [depthV, if_neg (by omega), Int.toNat_natCast] at HD
  have HS := Lib.hid (stand_any ao cap P n w hN (by omega) (by omega))
  rw [hs] at HS
  have HH := Lib.hid (fun b1 b2 => needed_hands b1 b2 ao cap P (dep n) hpp.1 hP hpd hd16)
  have d0 : ¬ ((dep n : Nat) : Int) < 0 := by omega
  have HN := Lib.hid hN
  have HL := Lib.hid hle
  rw [show pre (needM (lvs P (dep n)) (dep n)) (dep n) = sizeD P n from rfl] at HH
  clear hN hs hpd hle hpp
  generalize sizeD P n = sz at *
  generalize dep n = d at *
  refine calls_of_wp_marks Tryz.func12 rfl ?_
  simp only [Tryz.ntmps12, List.size_toArray, List.length_cons, List.length_nil, Nat.reduceAdd, Nat.reduceSub, Array.replicate_succ, Array.replicate_zero, List.push_toArray, List.append_toArray, List.nil_append, List.cons_append]
  go_upto_region 5 with (first
    | (go_at_call 29; refine (HD.out _).mono ?_; rintro e w' ⟨rfl, rfl⟩)
    | (go_at_call 17; refine HS.out.mono ?_; rintro e w1 ⟨rfl, hb⟩))
  obtain ⟨b7, hb7⟩ : ∃ b7, b7 = w1.heap.size := ⟨_, rfl⟩
  have hz1 := hb.size
  obtain ⟨wA, hA⟩ : ∃ wA, w1.alloc (.cells #[.int .i64 0] 3) = wA := ⟨_, rfl⟩
  have zA : wA.heap.size = b7 + 1 := by rw [← hA, World.size_alloc, ← hb7]
  have cN : wA.heap[b7]? = some (.cells #[.int .i64 0] 3 (0, 0)) := by
    rw [← hA, hb7]
    exact heap_alloc_new _ _
  have bA : Below w.heap.size w wA := by rw [← hA]; exact below_alloc hb _
  obtain ⟨wB, hB⟩ : ∃ wB, (wA.alloc (.cells #[.slice ao P.length cap] 24)).alloc (.cells #[.int .i64 (d : Int)] 3) = wB := ⟨_, rfl⟩
  have zB : wB.heap.size = b7 + 3 := by rw [← hB, World.size_alloc, World.size_alloc, zA]
  have kB : Below (b7 + 1) wA wB := by rw [← hB]; exact ((Below.refl _ _).alloc (by omega) _).alloc (by simp; omega) _
  have q1 : wB.cell? ⟨b7 + 1, 0, none⟩ = some (.slice ao P.length cap) := by
    rw [← hB, ← zA]; exact (World.cell?_alloc_lt _ _ _ (by simp)).trans (by simp)
  have q2 : wB.cell? ⟨b7 + 2, 0, none⟩ = some (.int .i64 (d : Int)) := by
    rw [← hB, show b7 + 2 = (wA.alloc (.cells #[.slice ao P.length cap] 24)).heap.size by simp; omega]; simp
  have HV := Lib.hid (mneeded_any ao P.length cap (d : Int) wA)
  rw [hB, zA] at HV
  have HF := Lib.hid (And.intro hz1 (And.intro (bA.trans (kB.mono (by omega))) (And.intro ((kB.block b7 (by omega)).trans cN) (And.intro q1 q2))))
  have HZ := Lib.hid (And.intro zB hb7)
  have hw1 : w1.heap.size = b7 := hb7.symm
  clear hb hz1 zA cN bA zB kB q1 q2 hB hb7 HD HS
  try rw [hA]
  rw [hw1]
  clear hA hw1
  go_wp2_with (go_at_call 20; refine HV.out.mono ?_; rintro e wx ⟨rfl, hwx⟩; have hwx := hwx.symm; subst hwx)
  refine wp_rangeFunc_mid (gf := 39) (lb := #[.pointer (some ⟨b7 + 1, 0, none⟩), .pointer (some ⟨b7 + 2, 0, none⟩)]) rfl (enters_of Tryz.func39 (by kernel_rfl) rfl)
    (HH.out (b7 + 1) (b7 + 2)) (fun _ => rfl) (b7 + 3) HZ.out.1 [b7] ?ok
    (fun m k W => W.heap[b7]? = some (.cells #[.int .i64 (k : Int)] 3 (0, 0)) ∧ Kept (fun j => j < b7 + 3 ∧ j ∉ [b7]) wB W) ?keep ?start
    (fun k => { tmps := #[.int .i64 (n : Int), .slice ao P.length cap, undef, undef, .int .i64 0, .int .i64 0, .int .i64 (d : Int), .pointer (some ⟨b7, 0, none⟩), .int .i64 (n : Int), .int .i64 (d : Int), .int .i64 (d : Int), .bool (decide ((d : Int) < 0)), .bool (decide ((d : Int) < 0)), .slice ao P.length cap, .int .i64 (n : Int), .bool true, .bool false, .bool (decide ((d : Int) < 0)), .slice ao P.length cap, .int .i64 (d : Int), .func (.func 39) #[] #[.pointer (some ⟨b7 + 1, 0, none⟩), .pointer (some ⟨b7 + 2, 0, none⟩)], .int .i64 (encA P d k : Int), .int .u64 (encB P d k : Int), undef, undef, undef], defers := [] }) ?assign ?body ?done
  case ok =>
    intro W' hW'
    have hz := HZ.out.1
    refine ⟨(World.cell?_of_block (a := ⟨b7 + 1, 0, none⟩) (hW'.block (b7 + 1) (by omega) ⟨by omega, by simp⟩)).trans HF.out.2.2.2.1, (World.cell?_of_block (a := ⟨b7 + 2, 0, none⟩) (hW'.block (b7 + 2) (by omega) ⟨by omega, by simp⟩)).trans HF.out.2.2.2.2, ?_⟩
    exact nums_next HN.out (HF.out.2.1.trans (hW'.below (B := w.heap.size) (by have := HF.out.1; have := HZ.out.2; omega) (fun j hj => ⟨by have := HF.out.1; have := HZ.out.2; omega, by simp; have := HF.out.1; have := HZ.out.2; omega⟩)))
  case keep =>
    rintro m k W W' ⟨h1, h3⟩ hk
    exact ⟨(hk.block b7 (lit_lt h1) (.inl (by omega))).trans h1, h3.trans (hk.less fun j _ hj => .inl hj.1)⟩
  case start =>
    intro m
    exact ⟨HF.out.2.2.1, Kept.refl _ _⟩
  case assign =>
    intro l k W K hK
    gi_wp2
    simpa using hK
  case body =>
    rintro l' mid k W hm1 hm2 hkN ⟨hcell, hkp⟩
    have c7 : W.cell? ⟨b7, 0, none⟩ = some (.int .i64 (k : Int)) := (lit_cell hcell 0).trans rfl
    have f7 : W.frozen? ⟨b7, 0, none⟩ = false := lit_free hcell 0
    have hk8 : (k : Int) ≤ 784 := by have := HL.out; omega
    have ks : Kept (fun j => (j < b7 + 3 ∧ j ∉ [b7]) ∨ (b7 + 3 ≤ j ∧ j < mid)) W (W.setCell ⟨b7, 0, none⟩ (.int .i64 ((k : Int) + 1))) := (Kept.refl _ W).setCell b7 0 _ (fun _ h => h.elim (fun h => h.2 (by simp)) (fun h => by omega))
    have HFI := Lib.hid (And.intro ks (And.intro (lit_set (k := 0) (.int .i64 ((k : Int) + 1)) hcell) (hkp.trans (ks.less fun j _ hj => .inl hj))))
    clear hcell hkp ks hkN hm1 hm2
    gi_wp2
    exact ⟨HFI.out.1, HFI.out.2.1.trans (by simp), HFI.out.2.2⟩
  case done =>
    rintro m W hm ⟨h1, h3⟩ hkp hdef
    have c8 : W.cell? ⟨b7, 0, none⟩ = some (.int .i64 (sz : Int)) := (lit_cell h1 0).trans rfl
    have HK := Lib.hid hkp
    clear h1 h3 hkp hm
    go_wp2
    refine ⟨by simp, .inl ⟨_, _, rfl, run_takeDeferred hdef, ?_⟩⟩
    have kp : Kept (fun j => j ≠ b7 + 3) W (W.putObj (b7 + 3) (.deferred none)) := Kept.putObj _ _ _ _ (by simp)
    have hbw := (HK.out.trans (kp.less (T := fun j => j < b7 + 3 ∧ j ∉ [b7]) fun j _ h => by omega)).below (B := w.heap.size) (by have := HF.out.1; have := HZ.out; omega) (fun j h => ⟨by have := HF.out.1; have := HZ.out; omega, by simp; have := HF.out.1; have := HZ.out; omega⟩)
    exact ⟨.tuple #[.int .i64 (sz : Int), .int .i64 0], by simp [results, Tryz.results12, go_sem], rfl, HF.out.2.1.trans hbw⟩
end Go.Proofs.YtfghggfoncfhgaaGreatDoor
/- Hashes of one text, of two; small trees' roots and digests. -/
namespace Go.Proofs.YtfghggfoncfhgaaGreatDoor
open Go.RowKit

theorem hash1_any (tag x : (List UInt8)) (wz : World) (hg : Glob wz) (ht : tag.length ≤ 16) (hx : x.length ≤ 10000000) : Calls Tryz.prog 26 #[.string ⟨tag.toArray⟩, .slice (some ⟨wz.heap.size, 0, none⟩) 1 1] (wz.alloc (.cells #[.string ⟨x.toArray⟩] 9)) fun e w' => e = .returned (.string ⟨(hashL tag [x]).toArray⟩) ∧ Below wz.heap.size wz w' := by
  refine (hash_any tag (some ⟨wz.heap.size, 0, none⟩) 1 [x] _ (hg.below hg.size (by0 wz _)) (strs_new wz [x] _ rfl) (by unfold maxLen; omega) (Nat.lt_of_lt_of_le (framed_short tag [x] ht (by simpa using hx) (by simp)) (by decide))).mono ?_
  rintro e w' ⟨h1, h2⟩
  exact ⟨h1, below_next (by0 wz _) h2⟩
theorem hash2_any (tag x y : (List UInt8)) (wz : World) (hg : Glob wz) (ht : tag.length ≤ 16) (hx : x.length ≤ 10000000) (hy : y.length ≤ 10000000) : Calls Tryz.prog 26 #[.string ⟨tag.toArray⟩, .slice (some ⟨wz.heap.size, 0, none⟩) 2 2] (wz.alloc (.cells #[.string ⟨x.toArray⟩, .string ⟨y.toArray⟩] 9)) fun e w' => e = .returned (.string ⟨(hashL tag [x, y]).toArray⟩) ∧ Below wz.heap.size wz w' := by
  refine (hash_any tag (some ⟨wz.heap.size, 0, none⟩) 2 [x, y] _ (hg.below hg.size (by0 wz _)) (strs_new wz [x, y] _ rfl) (by unfold maxLen; omega) (Nat.lt_of_lt_of_le (framed_short tag [x, y] ht (by intro z hz; simp at hz; rcases hz with rfl | rfl <;> assumption) (by simp)) (by decide))).mono ?_
  rintro e w' ⟨h1, h2⟩
  exact ⟨h1, below_next (by0 wz _) h2⟩
/-- what the law's walks keep -/
structure Wl (w0 wz : World) : Prop where
  g : Glob wz
  o : Below w0.heap.size w0 wz
theorem Wl.next {w0 wz wa : World} (h : Wl w0 wz) (hb : Below wz.heap.size wz wa) : Wl w0 wa := ⟨h.g.below h.g.size hb, below_next h.o hb⟩
theorem gl_in {L : List (List UInt8)} {d k i : Nat} (h : turnB k (d : Int) = i) (hi : i < L.length) : gl L d k = hashL leafT [L[i]] := by
  subst h
  exact dif_pos hi
theorem gl_out {L : List (List UInt8)} {d k : Nat} (h : ¬ turnB k (d : Int) < L.length) : gl L d k = hashL noneT [] := dif_neg h
theorem root_0 : rootD [] = hashL noneT [] := by
  unfold rootD
  rw [show dep ([] : List (List UInt8)).length = 0 by decide +kernel]
  exact gl_out (by decide +kernel)
theorem root_1 (a : (List UInt8)) : rootD [a] = hashL leafT [a] := by
  unfold rootD
  rw [show dep [a].length = 0 from show dep 1 = 0 by decide +kernel]
  exact gl_in (i := 0) (by decide +kernel) (by simp)
theorem root_2 (a b : (List UInt8)) : rootD [a, b] = hashL nodeT [hashL leafT [a], hashL leafT [b]] := by
  unfold rootD
  rw [show dep [a, b].length = 1 from show dep 2 = 1 by decide +kernel]
  show hashL nodeT [gl [a, b] 1 0, gl [a, b] 1 1] = _
  rw [gl_in (i := 0) (by decide +kernel) (by simp), gl_in (i := 1) (by decide +kernel) (by simp)]
  rfl
theorem root_3 (a b c : (List UInt8)) : rootD [a, b, c] = hashL nodeT [hashL nodeT [hashL leafT [a], hashL leafT [c]], hashL nodeT [hashL leafT [b], hashL noneT []]] := by
  unfold rootD
  rw [show dep [a, b, c].length = 2 from show dep 3 = 2 by decide +kernel]
  show hashL nodeT [hashL nodeT [gl [a, b, c] 2 0, gl [a, b, c] 2 1], hashL nodeT [gl [a, b, c] 2 2, gl [a, b, c] 2 3]] = _
  rw [gl_in (k := 0) (i := 0) (by decide +kernel) (by simp), gl_in (k := 1) (i := 2) (by decide +kernel) (by simp), gl_in (k := 2) (i := 1) (by decide +kernel) (by simp), gl_out (k := 3) (show ¬ turnB 3 ((2 : Nat) : Int) < 3 by decide +kernel)]
  rfl
theorem at_1 (a : (List UInt8)) : atV [a] 0 0 = .tuple #[.string ⟨(hashL leafT [a]).toArray⟩, .bool true] := by
  have h : atIn (dep [a].length) 0 0 = true := show atIn (dep 1) 0 0 = true by decide +kernel
  rw [atV, atD, h, if_pos rfl, show dg (gl [a] (dep [a].length)) (Int.toNat 0) 0 = hashL leafT [a] from gl_in (i := 0) (show turnB 0 (dep 1 : Int) = 0 by decide +kernel) (by simp)]
theorem at_1b (a : (List UInt8)) : atV [a] 0 1 = .tuple #[.string ⟨#[]⟩, .bool false] := by
  have h : atIn (dep [a].length) 0 1 = false := show atIn (dep 1) 0 1 = false by decide +kernel
  rw [atV, atD, h]
  rfl
theorem at_1c (a : (List UInt8)) : atV [a] 1 0 = .tuple #[.string ⟨#[]⟩, .bool false] := by
  have h : atIn (dep [a].length) 1 0 = false := show atIn (dep 1) 1 0 = false by decide +kernel
  rw [atV, atD, h]
  rfl
end Go.Proofs.YtfghggfoncfhgaaGreatDoor
