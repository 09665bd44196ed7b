/- At: a place's digest. -/
import Derived.Test.YtjfhcckadibhgaaDoorAi
namespace Go.Proofs.YtjfhcckadibhgaaDoor
open Go.RowKit

/-- is there such a place? -/
def atIn (d : Nat) (level : Int) (k : Nat) : Bool := decide (0 ≤ level) && (decide (level ≤ (d : Int)) && decide (k < 2 ^ (d - level.toNat)))
def atD (L : List (List UInt8)) (level : Int) (k : Nat) : (List UInt8) := if atIn (dep L.length) level k = true then dg (gl L (dep L.length)) level.toNat k else []
abbrev atV (L : List (List UInt8)) (level : Int) (k : Nat) : Value := .tuple #[.string ⟨(atD L level k).toArray⟩, .bool (atIn (dep L.length) level k)]
theorem half_pow (k q : Nat) : k / 2 ^ q = 2 * (k / 2 ^ (q + 1)) + k / 2 ^ q % 2 := by
  have : k / 2 ^ (q + 1) = k / 2 ^ q / 2 := by rw [Nat.pow_succ, Nat.div_div_eq_div_mul]
  omega
theorem shl_pow {e : Nat} (he : e ≤ 16) : IntKind.u64.wrap ((2 : Int) ^ e) = (2 : Int) ^ e ∧ (2 : Int) ^ e = ((2 ^ e : Nat) : Int) ∧ 2 ^ e ≤ 65536 := by
  have hp : 2 ^ e ≤ 2 ^ 16 := Nat.pow_le_pow_right (by decide) he
  have hc : ((2 : Int) ^ e) = ((2 ^ e : Nat) : Int) := by simp
  refine ⟨?_, hc, hp⟩
  rw [hc, IntKind.wrap_u64]
  generalize 2 ^ e = p at hp ⊢
  omega
theorem at_bad (t : Value) (D : Int) (level : Int) (k : Nat) (w : World) (hD : Calls Tryd.prog 13 #[t] w fun e w' => e = .returned (.int .i64 D) ∧ w = w') (h : level < 0 ∨ D < level) :
    Calls Tryd.prog 16 #[t, .int .i64 level, .int .u64 (k : Int)] w fun e w' => e = .returned (.tuple #[.string ⟨#[]⟩, .bool false]) ∧ w = w' := by
  have HD := Lib.hid hD
  clear hD
  rcases h with h | h
  · go_enter Tryd.func16, Tryd.ntmps16
    go_wp2_with (go_at_call 13; refine HD.out.mono ?_; rintro e w' ⟨rfl, rfl⟩)
    exact bodyPost_ret (v := .tuple #[.string ⟨#[]⟩, .bool false]) (by simp [results, Tryd.results16, go_sem]) rfl ⟨rfl, rfl⟩
  · by_cases h0 : level < 0
    · go_enter Tryd.func16, Tryd.ntmps16
      go_wp2_with (go_at_call 13; refine HD.out.mono ?_; rintro e w' ⟨rfl, rfl⟩)
      exact bodyPost_ret (v := .tuple #[.string ⟨#[]⟩, .bool false]) (by simp [results, Tryd.results16, go_sem]) rfl ⟨rfl, rfl⟩
    · go_enter Tryd.func16, Tryd.ntmps16
      go_wp2_with (go_at_call 13; refine HD.out.mono ?_; rintro e w' ⟨rfl, rfl⟩)
      exact bodyPost_ret (v := .tuple #[.string ⟨#[]⟩, .bool false]) (by simp [results, Tryd.results16, go_sem]) rfl ⟨rfl, rfl⟩
set_option maxRecDepth 100000 in
set_option maxHeartbeats 1000000 in
theorem at_any (L : List (List UInt8)) (t : Nat) (level : Int) (k : Nat) (w : World) (hT : TreeM L w t) (hk : k < 18446744073709551616) :
    Calls Tryd.prog 16 #[.pointer (some ⟨t, 0, none⟩), .int .i64 level, .int .u64 (k : Int)] w fun e w' => e = .returned (atV L level k) ∧ Below w.heap.size w w' := by
  have hD := depthT_any L t w hT
  have hd := dep_le L.length hT.le
  by_cases hl : level < 0 ∨ (dep L.length : Int) < level
  · have e : atIn (dep L.length) level k = false := by simp [atIn]; omega
    rw [atV, atD, e]
    exact (at_bad _ _ level k w hD hl).mono fun e w' h => ⟨h.1, h.2 ▸ Below.refl _ _⟩
  obtain ⟨v, rfl⟩ : ∃ v : Nat, level = (v : Int) := ⟨level.toNat, by omega⟩
  obtain ⟨E, hE⟩ : ∃ E, E = dep L.length - v := ⟨_, rfl⟩
  have HD := Lib.hid hD
  have hdv : (dep L.length : Int) - (v : Int) = (E : Int) := by omega
  have hv : (v : Int) ≤ (dep L.length : Int) := by omega
  have hv2 : ¬ (v : Int) < 0 := by omega
  have hv3 : ¬ (dep L.length : Int) < (v : Int) := by omega
  obtain ⟨r, h1, h2⟩ := hT.blk
  have hatin : atIn (dep L.length) (v : Int) k = decide (k < 2 ^ E) := by
    rw [hE]
    simp [atIn]
    omega
  have hatD : k < 2 ^ E → atD L (v : Int) k = dg (gl L (dep L.length)) v k := fun h => by
    rw [atD, hatin, if_pos (by simpa using h)]
    rfl
  have HBAD : Hid (¬ k < 2 ^ E → atD L (v : Int) k = []) := Lib.hid fun h => by
    rw [atD, hatin, if_neg (by simpa using h)]
  have HIN : Hid (InT (gl L (dep L.length)) w (v + E) 0 r) := Lib.hid (by rw [hE, show v + (dep L.length - v) = dep L.length by omega]; exact h2)
  rw [atV, hatin]
  have c0 := (lit_cell h1 0).trans rfl
  have hE16 : E ≤ 16 := by omega
  have hv16 : (v : Int) ≤ 16 := by omega
  have HS := Lib.hid (fun q (hq : q < 64) w => side_any k q hk hq w)
  clear hD hT hl h1 h2 hE hatin
  generalize gl L (dep L.length) = g at *
  generalize dep L.length = d at *
  obtain ⟨hs1, hs2, hs3⟩ := shl_pow hE16
  by_cases hkE : k < 2 ^ E
  · have hlt : ¬ (2 : Int) ^ E ≤ (k : Int) := by rw [hs2]; omega
    rw [hatD hkE, decide_eq_true hkE]
    have HK := Lib.hid hkE
    clear hatD hkE hs2 hs3
    go_enter Tryd.func16, Tryd.ntmps16
    go_upto_region 2 with (go_at_call 13; refine HD.out.mono ?_; rintro e w' ⟨rfl, rfl⟩)
    go_wp2
    have hf1 : decide (d < v) = false := decide_eq_false (by omega)
    have hf2 : decide ((v : Int) < 0) = false := decide_eq_false (by omega)
    have hf3 : decide ((2 : Int) ^ E ≤ (k : Int)) = false := decide_eq_false (Int.not_le.2 hlt)
    simp only [hf1, hf2, hf3, Bool.or_false]
    have HE16 := Lib.hid hE16
    clear hf1 hf2 hf3 hv2 hv3 hlt hv hdv hs1 hE16 hv16 c0 hd
    go_loopw [9, 10] (fun p dn wr => ∃ q b : Nat, q ≤ E ∧ p = .pointer (some ⟨b, 0, none⟩) ∧ dn = .int .i64 (q : Int) ∧ Hid (InT g wr (v + q) (k / 2 ^ q) b) ∧ Below w.heap.size w wr) (fun _ dn _ => (intOf dn).toNat)
    case atStart => exact ⟨E, r, Nat.le_refl _, rfl, rfl, Lib.hid (by rw [Nat.div_eq_of_lt HK.out]; exact HIN.out), Below.refl _ _⟩
    case round =>
      obtain ⟨q, b, hq, rfl, rfl, HB, hbw⟩ := hrel
      by_cases hq0 : q = 0
      · subst hq0
        have hb := HB.out
        rw [Nat.pow_zero, Nat.div_one, Nat.add_zero] at hb
        obtain ⟨x, y, hb⟩ := hb.blk
        have d0 := (lit_cell hb 0).trans rfl
        clear hb
        go_wp2
        exact bodyPost_ret (v := .tuple #[.string ⟨(dg g v k).toArray⟩, .bool true]) (by simp [results, Tryd.results16, go_sem]) rfl ⟨rfl, hbw⟩
      · obtain ⟨j, hj⟩ : ∃ j, q = j + 1 := ⟨q - 1, by omega⟩
        have hb := HB.out
        rw [hj] at hb
        obtain ⟨x, y, hb, hx, hy⟩ := hb
        have d1 := (lit_cell hb 1).trans rfl
        have d2 := (lit_cell hb 2).trans rfl
        have HX := Lib.hid hx
        have HY := Lib.hid hy
        have HJ := Lib.hid (half_pow k j)
        have HSJ := Lib.hid (fun w => HS.out j (by have := HE16.out; omega) w)
        have k0 : (0 : Int) < (q : Int) := by omega
        have e1 : (q : Int) - 1 = (j : Int) := by omega
        have e2 : (0 : Int) ≤ (j : Int) := by omega
        have e3 : IntKind.i64.wrap (j : Int) = (j : Int) := by rw [IntKind.wrap_i64]; have := HE16.out; omega
        have HQ := Lib.hid (And.intro hj hq)
        clear hb hx hy HB hj hq hq0
        rcases Nat.mod_two_eq_zero_or_one (k / 2 ^ j) with hs | hs
        · rw [hs] at HSJ
          have HE := Lib.hid (show k / 2 ^ j = 2 * (k / 2 ^ (j + 1)) from by have := HJ.out; omega)
          clear hs
          go_wp2
          go_region_held3 (fun w' => w'.cell? ⟨b, 1, none⟩ = some (.pointer (some ⟨x, 0, none⟩)) ∧ w'.cell? ⟨b, 2, none⟩ = some (.pointer (some ⟨y, 0, none⟩))) (first | (with_reducible assumption) | (exact ⟨d1, d2⟩))
            (first | (go_at_call 31; refine (HSJ.out _).mono ?_; rintro e w' ⟨rfl, rfl⟩))
          all_goals
            go_wp2
            go_roundw
            case rel => exact ⟨j, x, by have := HQ.out; omega, rfl, rfl, Lib.hid (by rw [HE.out]; exact HX.out.below (Below.refl _ _).drew), hbw.drew⟩
            case measure => simp [intOf]; have := HQ.out; omega
        · rw [hs] at HSJ
          have HE := Lib.hid (show k / 2 ^ j = 2 * (k / 2 ^ (j + 1)) + 1 from by have := HJ.out; omega)
          clear hs
          go_wp2
          go_region_held3 (fun w' => w'.cell? ⟨b, 1, none⟩ = some (.pointer (some ⟨x, 0, none⟩)) ∧ w'.cell? ⟨b, 2, none⟩ = some (.pointer (some ⟨y, 0, none⟩))) (first | (with_reducible assumption) | (exact ⟨d1, d2⟩))
            (first | (go_at_call 31; refine (HSJ.out _).mono ?_; rintro e w' ⟨rfl, rfl⟩))
          all_goals
            go_wp2
            go_roundw
            case rel => exact ⟨j, y, by have := HQ.out; omega, rfl, rfl, Lib.hid (by rw [HE.out]; exact HY.out.below (Below.refl _ _).drew), hbw.drew⟩
            case measure => simp [intOf]; have := HQ.out; omega
  · have hlt : (2 : Int) ^ E ≤ (k : Int) := by rw [hs2]; omega
    rw [decide_eq_false hkE, show atD L (v : Int) k = [] from HBAD.out hkE]
    clear hatD hkE hs2 hs3
    go_enter Tryd.func16, Tryd.ntmps16
    go_wp2_with (go_at_call 13; refine HD.out.mono ?_; rintro e w' ⟨rfl, rfl⟩)
    exact bodyPost_ret (v := .tuple #[.string ⟨#[]⟩, .bool false]) (by simp [results, Tryd.results16, go_sem]) rfl ⟨rfl, Below.refl _ _⟩
end Go.Proofs.YtjfhcckadibhgaaDoor
