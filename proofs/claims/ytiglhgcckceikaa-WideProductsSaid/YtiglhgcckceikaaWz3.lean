/- One digit of a quotient, and the rest, by the program. -/
import Derived.Test.YtiglhgcckceikaaWz2
import Derived.Test.YtiglhgcckceikaaWl
import Derived.Test.YtiglhgcckceikaaWp
namespace Go.Proofs.Ytiglhgcckceikaa
open Go.RowKit

theorem Q8_of4 (b : Int) (hb : In 4 b) : (#[.int .u64 (d b 0), .int .u64 (d b 1), .int .u64 (d b 2), .int .u64 (d b 3), .int .u64 0, .int .u64 0, .int .u64 0, .int .u64 0] : Array Value) = #[.int .u64 (d b 0), .int .u64 (d b 1), .int .u64 (d b 2), .int .u64 (d b 3), .int .u64 (d b 4), .int .u64 (d b 5), .int .u64 (d b 6), .int .u64 (d b 7)] := by
  have h : ∀ i, 4 ≤ i → d b i = 0 := fun i hi => by rw [d, div_above 4 i b hb hi]; rfl
  rw [h 4 (by omega), h 5 (by omega), h 6 (by omega), h 7 (by omega)]
theorem Q4_limb (q : Int) (h : Limb q) : (#[.int .u64 q, .int .u64 0, .int .u64 0, .int .u64 0] : Array Value) = #[.int .u64 (d q 0), .int .u64 (d q 1), .int .u64 (d q 2), .int .u64 (d q 3)] := by
  have h0 : d q 0 = q := by rw [d, div_zero', Int.emod_eq_of_lt h.1 h.2]
  have h1 : ∀ i, 1 ≤ i → d q i = 0 := fun i hi => by rw [d, div_above 1 i q ⟨h.1, h.2⟩ hi]; rfl
  rw [h0, h1 1 (by omega), h1 2 (by omega), h1 3 (by omega)]
theorem Limb.in4 {q : Int} (h : Limb q) : In 4 q := ⟨h.1, Int.lt_of_lt_of_le h.2 (by decide +kernel)⟩
theorem mul_in8 (b q : Int) (hb : In 4 b) (hq : Limb q) : In 8 (b * q) := by
  refine ⟨Int.mul_nonneg hb.1 hq.1, ?_⟩
  have h1 : b * q ≤ b * 18446744073709551616 := Int.mul_le_mul_of_nonneg_left (by have := hq.2; omega) hb.1
  have h2 := hb.2
  have e4 : pw 4 = 115792089237316195423570985008687907853269984665640564039457584007913129639936 := by rfl
  have e8 : pw 8 = 13407807929942597099574024998205846127479365820592393377723561443721764030073546976801874298166903427690031858186486050853753882811946569946433649006084096 := by rfl
  rw [e4] at h2
  rw [e8]
  omega

/-- three blocks, and all below -/
structure G3 (w : World) (A B : Array Value) (wz : World) : Prop where
  ha : wz.heap[w.heap.size]? = some (.cells A 26 (0, 0))
  hb : wz.heap[w.heap.size + 1]? = some (.cells B 24 (0, 0))
  ho : ∃ z0 z1 z2 z3 : Value, wz.heap[w.heap.size + 1 + 1]? = some (.cells #[z0, z1, z2, z3] 24 (0, 0))
  hw : Below w.heap.size w wz
theorem G3.begin (w : World) (A B : Array Value) (z0 z1 z2 z3 : Value) : G3 w A B (((w.alloc (.cells A 26)).alloc (.cells B 24)).alloc (.cells #[z0, z1, z2, z3] 24)) := by
  refine ⟨arow_alloc _ (arow_alloc _ (arow_new _ _ _)), arow_alloc _ ?_, ⟨z0, z1, z2, z3, ?_⟩, below3' _ _ _ _⟩
  · have := arow_new (w.alloc (.cells A 26)) B 24
    rwa [World.size_alloc] at this
  · have := arow_new ((w.alloc (.cells A 26)).alloc (.cells B 24)) #[z0, z1, z2, z3] 24
    rwa [World.size_alloc, World.size_alloc] at this
theorem G3.lt {w wz : World} {A B : Array Value} (h : G3 w A B wz) : w.heap.size + 1 + 1 < wz.heap.size := by obtain ⟨_, _, _, _, h⟩ := h.ho; exact arow_lt h
theorem G3.next {w wz wa : World} {A B : Array Value} (h : G3 w A B wz) (hb : Below wz.heap.size wz wa) : G3 w A B wa := by
  obtain ⟨h1, h2, ⟨z0, z1, z2, z3, h3⟩, h4⟩ := h
  exact ⟨arow_below h1 hb (arow_lt h1), arow_below h2 hb (arow_lt h2), ⟨z0, z1, z2, z3, arow_below h3 hb (arow_lt h3)⟩, h4.trans (hb.mono h4.size)⟩
theorem G3.alloc {w wz : World} {A B : Array Value} (h : G3 w A B wz) (o : Obj) : G3 w A B (wz.alloc o) := h.next (below1' wz o)
/-- and a block besides -/
structure G5 (w : World) (A B : Array Value) (M : Nat) (P : Array Value) (wz : World) : Prop extends G3 w A B wz where
  hm : wz.heap[M]? = some (.cells P 26 (0, 0))
  hl : w.heap.size + 1 + 1 < M
theorem G5.next {w wz wa : World} {A B P : Array Value} {M : Nat} (h : G5 w A B M P wz) (hb : Below wz.heap.size wz wa) : G5 w A B M P wa := ⟨h.toG3.next hb, arow_below h.hm hb (arow_lt h.hm), h.hl⟩
theorem G3.more {w wz : World} {A B P : Array Value} (h : G3 w A B wz) : G5 w A B wz.heap.size P (wz.alloc (.cells P 26)) := ⟨h.alloc _, arow_new _ _ _, h.lt⟩
theorem G5.stored {w wz : World} {A B : Array Value} {M : Nat} {a0 a1 a2 a3 a4 a5 a6 a7 v0 v1 v2 v3 v4 v5 v6 v7 : Value} (h : G5 w A B M #[a0, a1, a2, a3, a4, a5, a6, a7] wz) :
    G5 w A B M #[v0, v1, v2, v3, v4, v5, v6, v7] ((((((((wz.setCell ⟨M, 0, none⟩ v0).setCell ⟨M, 1, none⟩ v1).setCell ⟨M, 2, none⟩ v2).setCell ⟨M, 3, none⟩ v3).setCell ⟨M, 4, none⟩ v4).setCell ⟨M, 5, none⟩ v5).setCell ⟨M, 6, none⟩ v6).setCell ⟨M, 7, none⟩ v7) := by
  have hl := h.hl
  obtain ⟨z0, z1, z2, z3, h3⟩ := h.ho
  exact ⟨⟨far8 (by omega) h.ha, far8 (by omega) h.hb, ⟨z0, z1, z2, z3, far8 (by omega) h3⟩, below_set8 h.hw (by omega)⟩, set8 h.hm, hl⟩
theorem cells8 {w : World} {N : Nat} {T : TypeId} {x : Int} (h : w.heap[N]? = some (.cells #[.int .u64 (d x 0), .int .u64 (d x 1), .int .u64 (d x 2), .int .u64 (d x 3), .int .u64 (d x 4), .int .u64 (d x 5), .int .u64 (d x 6), .int .u64 (d x 7)] T (0, 0))) : w.cell? ⟨N, 0, none⟩ = some (.int .u64 (d x 0)) ∧ w.cell? ⟨N, 1, none⟩ = some (.int .u64 (d x 1)) ∧ w.cell? ⟨N, 2, none⟩ = some (.int .u64 (d x 2)) ∧ w.cell? ⟨N, 3, none⟩ = some (.int .u64 (d x 3)) ∧
    w.cell? ⟨N, 4, none⟩ = some (.int .u64 (d x 4)) ∧ w.cell? ⟨N, 5, none⟩ = some (.int .u64 (d x 5)) ∧ w.cell? ⟨N, 6, none⟩ = some (.int .u64 (d x 6)) ∧ w.cell? ⟨N, 7, none⟩ = some (.int .u64 (d x 7)) :=
  ⟨(arow_cell h 0).trans rfl, (arow_cell h 1).trans rfl, (arow_cell h 2).trans rfl, (arow_cell h 3).trans rfl, (arow_cell h 4).trans rfl, (arow_cell h 5).trans rfl, (arow_cell h 6).trans rfl, (arow_cell h 7).trans rfl⟩
theorem free8 {w : World} {N : Nat} {T : TypeId} {R : Array Value} (h : w.heap[N]? = some (.cells R T (0, 0))) : w.frozen? ⟨N, 0, none⟩ = false ∧ w.frozen? ⟨N, 1, none⟩ = false ∧ w.frozen? ⟨N, 2, none⟩ = false ∧ w.frozen? ⟨N, 3, none⟩ = false ∧
    w.frozen? ⟨N, 4, none⟩ = false ∧ w.frozen? ⟨N, 5, none⟩ = false ∧ w.frozen? ⟨N, 6, none⟩ = false ∧ w.frozen? ⟨N, 7, none⟩ = false :=
  ⟨arow_free h 0, arow_free h 1, arow_free h 2, arow_free h 3, arow_free h 4, arow_free h 5, arow_free h 6, arow_free h 7⟩

set_option maxRecDepth 100000 in
set_option maxHeartbeats 2000000 in
theorem digit_fn (a b g : Int) (w : World) (ha : In 8 a) (hb : In 4 b) (h0 : 0 < b) (hg : a / b ≤ g) (hgl : Limb g)
    (hgu : ∀ w : World, Calls Try.prog 51 #[.agg #[.int .u64 (d a 0), .int .u64 (d a 1), .int .u64 (d a 2), .int .u64 (d a 3), .int .u64 (d a 4), .int .u64 (d a 5), .int .u64 (d a 6), .int .u64 (d a 7)], .agg #[.int .u64 (d b 0), .int .u64 (d b 1), .int .u64 (d b 2), .int .u64 (d b 3)]] w fun e w' => e = .returned (.int .u64 g) ∧ Below w.heap.size w w') :
    Calls Try.prog 45 #[.agg #[.int .u64 (d a 0), .int .u64 (d a 1), .int .u64 (d a 2), .int .u64 (d a 3), .int .u64 (d a 4), .int .u64 (d a 5), .int .u64 (d a 6), .int .u64 (d a 7)], .agg #[.int .u64 (d b 0), .int .u64 (d b 1), .int .u64 (d b 2), .int .u64 (d b 3)]] w fun e w' => e = .returned (.tuple #[.int .u64 (a / b), .agg #[.int .u64 (d (a % b) 0), .int .u64 (d (a % b) 1), .int .u64 (d (a % b) 2), .int .u64 (d (a % b) 3)]]) ∧ Below w.heap.size w w' := by
  have HGU := Lib.hid hgu
  clear hgu
  have HGL := Lib.hid hgl
  have HG := Lib.hid hg
  have HM := Lib.hid (fun w => mul4_any _ _ b g w rfl (Q4_limb g hgl) hb hgl.in4)
  clear hg hgl
  go_enter Try.func45, Try.ntmps45
  go_wp2_with fail
  have G := Lib.hid (G3.begin w #[.int .u64 (d a 0), .int .u64 (d a 1), .int .u64 (d a 2), .int .u64 (d a 3), .int .u64 (d a 4), .int .u64 (d a 5), .int .u64 (d a 6), .int .u64 (d a 7)] #[.int .u64 (d b 0), .int .u64 (d b 1), .int .u64 (d b 2), .int .u64 (d b 3)] (.int .u64 0) (.int .u64 0) (.int .u64 0) (.int .u64 0))
  generalize (((w.alloc (.cells #[.int .u64 (d a 0), .int .u64 (d a 1), .int .u64 (d a 2), .int .u64 (d a 3), .int .u64 (d a 4), .int .u64 (d a 5), .int .u64 (d a 6), .int .u64 (d a 7)] 26)).alloc (.cells #[.int .u64 (d b 0), .int .u64 (d b 1), .int .u64 (d b 2), .int .u64 (d b 3)] 24)).alloc (.cells #[.int .u64 0, .int .u64 0, .int .u64 0, .int .u64 0] 24)) = v0 at *
  refine (HGU.out _).mono ?_
  rintro e w1 ⟨rfl, h1⟩
  have G := Lib.hid (G.out.next h1)
  obtain ⟨b0, b1, b2, b3⟩ := cells4 G.out.hb
  clear h1
  go_wp2_with fail
  clear b0 b1 b2 b3
  refine (HM.out _).mono ?_
  rintro e w2 ⟨rfl, h2⟩
  have G := Lib.hid (G.out.next h2)
  clear h2
  go_wp2_with fail
  have G := Lib.hid (G.out.more (P := #[.int .u64 (d (b * g) 0), .int .u64 (d (b * g) 1), .int .u64 (d (b * g) 2), .int .u64 (d (b * g) 3), .int .u64 (d (b * g) 4), .int .u64 (d (b * g) 5), .int .u64 (d (b * g) 6), .int .u64 (d (b * g) 7)]))
  generalize (w2.alloc (.cells #[.int .u64 (d (b * g) 0), .int .u64 (d (b * g) 1), .int .u64 (d (b * g) 2), .int .u64 (d (b * g) 3), .int .u64 (d (b * g) 4), .int .u64 (d (b * g) 5), .int .u64 (d (b * g) 6), .int .u64 (d (b * g) 7)] 26)) = v2 at *
  generalize w2.heap.size = M at *
  go_loopw [4] (fun qv wr => ∃ g : Int, qv = .int .u64 g ∧ Hid (Limb g) ∧ Hid (a / b ≤ g) ∧ Hid (G5 w #[.int .u64 (d a 0), .int .u64 (d a 1), .int .u64 (d a 2), .int .u64 (d a 3), .int .u64 (d a 4), .int .u64 (d a 5), .int .u64 (d a 6), .int .u64 (d a 7)] #[.int .u64 (d b 0), .int .u64 (d b 1), .int .u64 (d b 2), .int .u64 (d b 3)] M #[.int .u64 (d (b * g) 0), .int .u64 (d (b * g) 1), .int .u64 (d (b * g) 2), .int .u64 (d (b * g) 3), .int .u64 (d (b * g) 4), .int .u64 (d (b * g) 5), .int .u64 (d (b * g) 6), .int .u64 (d (b * g) 7)] wr)) (fun qv _ => (intOf qv).toNat)
  case atStart => exact ⟨g, rfl, HGL, HG, G⟩
  case round =>
    clear HGL HG HGU HM G
    obtain ⟨g, rfl, HGL, HG, G⟩ := hrel
    obtain ⟨p, hp⟩ : ∃ p, b * g = p := ⟨_, rfl⟩
    have HP := Lib.hid hp
    have hpi : In 8 p := by rw [← hp]; exact mul_in8 b g hb HGL.out
    rw [hp] at G
    have HPI := Lib.hid hpi
    have hgl1 := HGL.out.1
    have hgl2 := HGL.out.2
    have HC := Lib.hid (fun w => compare8_any _ _ p a w rfl rfl hpi ha)
    by_cases c : a < p
    · have HS := Lib.hid (fun w => limb8_sub _ _ p b w rfl (Q8_of4 b hb) hpi ⟨hb.1, Int.lt_trans hb.2 (by decide +kernel)⟩)
      have e1 := cmpI_gt c
      have hlt : a / b < g := Int.ediv_lt_of_lt_mul h0 (by rw [Int.mul_comm, hp]; exact c)
      have h00 : 0 ≤ a / b := Int.ediv_nonneg ha.1 (Int.le_of_lt h0)
      have HN : Hid (Limb (g - 1) ∧ a / b ≤ g - 1 ∧ b * (g - 1) = p - b) := Lib.hid ⟨⟨by omega, by omega⟩, by omega, by rw [Int.mul_sub, hp, Int.mul_one]⟩
      have hg1 : 1 ≤ g := by omega
      rw [e1] at HC
      clear e1 hp hpi c hlt h00
      obtain ⟨c0, c1, c2, c3, c4, c5, c6, c7⟩ := cells8 G.out.hm
      obtain ⟨a0, a1, a2, a3, a4, a5, a6, a7⟩ := cells8 G.out.ha
      go_wp2_with fail
      clear c0 c1 c2 c3 c4 c5 c6 c7 a0 a1 a2 a3 a4 a5 a6 a7
      refine (HC.out _).mono ?_
      rintro e wc ⟨rfl, hc⟩
      have G := Lib.hid (G.out.next hc)
      clear hc
      obtain ⟨c0, c1, c2, c3, c4, c5, c6, c7⟩ := cells8 G.out.hm
      obtain ⟨b0, b1, b2, b3⟩ := cells4 G.out.hb
      go_wp2_with fail
      clear c0 c1 c2 c3 c4 c5 c6 c7 b0 b1 b2 b3
      refine (HS.out _).mono ?_
      rintro e wd ⟨rfl, hd⟩
      have G := Lib.hid (G.out.next hd)
      clear hd
      obtain ⟨c0, c1, c2, c3, c4, c5, c6, c7⟩ := cells8 G.out.hm
      obtain ⟨f0, f1, f2, f3, f4, f5, f6, f7⟩ := free8 G.out.hm
      go_wp2
      have G := Lib.hid (G.out.stored (v0 := .int .u64 (d (p - b) 0)) (v1 := .int .u64 (d (p - b) 1)) (v2 := .int .u64 (d (p - b) 2)) (v3 := .int .u64 (d (p - b) 3)) (v4 := .int .u64 (d (p - b) 4)) (v5 := .int .u64 (d (p - b) 5)) (v6 := .int .u64 (d (p - b) 6)) (v7 := .int .u64 (d (p - b) 7)))
      go_roundw
      case rel => exact ⟨g - 1, by go_num, Lib.hid HN.out.1, Lib.hid HN.out.2.1, Lib.hid (by rw [HN.out.2.2]; exact G.out)⟩
      case measure => simp [intOf] <;> omega
    · have HS := Lib.hid (fun w => limb8_sub _ _ a p w rfl rfl ha hpi)
      have hq : g = a / b := by
        have h1 : g ≤ a / b := Int.le_ediv_of_mul_le h0 (by rw [Int.mul_comm, hp]; omega)
        have h2 := HG.out
        omega
      obtain ⟨r, hr⟩ : ∃ r, a - p = r := ⟨_, rfl⟩
      have hr2 : r = a % b := by
        have := Int.emod_add_mul_ediv a b
        rw [← hq, hp] at this
        omega
      have hri : In 8 r := ⟨by omega, by have := ha.2; have := hpi.1; omega⟩
      have HL := Lib.hid (fun w => low8_any _ r w rfl hri)
      rw [hr] at HS
      have HQ := Lib.hid hq
      have HR := Lib.hid hr2
      obtain ⟨m, hm⟩ : ∃ m, cmpI p a = m := ⟨_, rfl⟩
      have hm2 : m ≤ 0 := by
        rw [← hm, cmpI]
        split <;> (try split) <;> omega
      rw [hm] at HC
      have e1 : decide (0 < m) = false := decide_eq_false (by omega)
      clear hm hm2 hp hpi c hq hr hr2 hri
      obtain ⟨c0, c1, c2, c3, c4, c5, c6, c7⟩ := cells8 G.out.hm
      obtain ⟨a0, a1, a2, a3, a4, a5, a6, a7⟩ := cells8 G.out.ha
      go_wp2_with fail
      clear c0 c1 c2 c3 c4 c5 c6 c7 a0 a1 a2 a3 a4 a5 a6 a7
      refine (HC.out _).mono ?_
      rintro e wc ⟨rfl, hc⟩
      have G := Lib.hid (G.out.next hc)
      clear hc
      obtain ⟨c0, c1, c2, c3, c4, c5, c6, c7⟩ := cells8 G.out.hm
      obtain ⟨a0, a1, a2, a3, a4, a5, a6, a7⟩ := cells8 G.out.ha
      go_wp2_with fail
      clear c0 c1 c2 c3 c4 c5 c6 c7 a0 a1 a2 a3 a4 a5 a6 a7 e1
      refine (HS.out _).mono ?_
      rintro e wd ⟨rfl, hd⟩
      have G := Lib.hid (G.out.toG3.next hd)
      clear hd
      go_wp2_with fail
      have G := Lib.hid (G.out.alloc (.cells #[.int .u64 (d r 0), .int .u64 (d r 1), .int .u64 (d r 2), .int .u64 (d r 3), .int .u64 (d r 4), .int .u64 (d r 5), .int .u64 (d r 6), .int .u64 (d r 7)] 26))
      generalize (wd.alloc (.cells #[.int .u64 (d r 0), .int .u64 (d r 1), .int .u64 (d r 2), .int .u64 (d r 3), .int .u64 (d r 4), .int .u64 (d r 5), .int .u64 (d r 6), .int .u64 (d r 7)] 26)) = vd at *
      refine (HL.out _).mono ?_
      rintro e we ⟨rfl, he⟩
      have G := Lib.hid (G.out.next he)
      clear he
      obtain ⟨z0, z1, z2, z3, ho⟩ := G.out.ho
      obtain ⟨⟨y0, p0⟩, g0⟩ := out4 ho rfl 0 (by decide)
      obtain ⟨⟨y1, p1⟩, g1⟩ := out4 ho rfl 1 (by decide)
      obtain ⟨⟨y2, p2⟩, g2⟩ := out4 ho rfl 2 (by decide)
      obtain ⟨⟨y3, p3⟩, g3⟩ := out4 ho rfl 3 (by decide)
      have RO := Lib.hid (set4 (v0 := .int .u64 (d r 0)) (v1 := .int .u64 (d r 1)) (v2 := .int .u64 (d r 2)) (v3 := .int .u64 (d r 3)) ho)
      have hN : w.heap.size ≤ w.heap.size + 1 + 1 := by omega
      have HB := Lib.hid (below_set4 (v0 := .int .u64 (d r 0)) (v1 := .int .u64 (d r 1)) (v2 := .int .u64 (d r 2)) (v3 := .int .u64 (d r 3)) G.out.hw hN)
      clear ho
      go_wp2_with fail
      clear p0 p1 p2 p3 g0 g1 g2 g3
      generalize ((((we.setCell ⟨w.heap.size + 1 + 1, 0, none⟩ (.int .u64 (d r 0))).setCell ⟨w.heap.size + 1 + 1, 1, none⟩ (.int .u64 (d r 1))).setCell ⟨w.heap.size + 1 + 1, 2, none⟩ (.int .u64 (d r 2))).setCell ⟨w.heap.size + 1 + 1, 3, none⟩ (.int .u64 (d r 3))) = wq at RO HB ⊢
      obtain ⟨p0, p1, p2, p3⟩ := cells4 RO.out
      have g0 := arow_free RO.out 0
      have g1 := arow_free RO.out 1
      have g2 := arow_free RO.out 2
      have g3 := arow_free RO.out 3
      go_region_held3 (fun w' => w'.cell? ⟨w.heap.size + 1 + 1, 0, none⟩ = some (.int .u64 (d r 0)) ∧ w'.cell? ⟨w.heap.size + 1 + 1, 1, none⟩ = some (.int .u64 (d r 1)) ∧ w'.cell? ⟨w.heap.size + 1 + 1, 2, none⟩ = some (.int .u64 (d r 2)) ∧ w'.cell? ⟨w.heap.size + 1 + 1, 3, none⟩ = some (.int .u64 (d r 3)))
        (((try simp only [World.cell?_drew]); first | (with_reducible exact cells4 RO.out) | (with_reducible exact cells4 (set4 RO.out))))
        (fail)
      go_wp2
      refine bodyPost_ret (v := .tuple #[.int .u64 g, .agg #[.int .u64 (d r 0), .int .u64 (d r 1), .int .u64 (d r 2), .int .u64 (d r 3)]]) ?_ rfl ⟨by rw [← HQ.out, ← HR.out], ?_⟩
      · simp [results, Try.results45, go_sem, *]
      · exact (below_set4 HB.out hN).drew

theorem digit_any (A B : Array Value) (a b : Int) (w : World) (hA : A = #[.int .u64 (d a 0), .int .u64 (d a 1), .int .u64 (d a 2), .int .u64 (d a 3), .int .u64 (d a 4), .int .u64 (d a 5), .int .u64 (d a 6), .int .u64 (d a 7)]) (hB : B = #[.int .u64 (d b 0), .int .u64 (d b 1), .int .u64 (d b 2), .int .u64 (d b 3)]) (ha : In 8 a) (hb : In 4 b) (h0 : 0 < b) (hab : a < b * 18446744073709551616) :
    Calls Try.prog 45 #[.agg A, .agg B] w fun e w' => e = .returned (.tuple #[.int .u64 (a / b), .agg #[.int .u64 (d (a % b) 0), .int .u64 (d (a % b) 1), .int .u64 (d (a % b) 2), .int .u64 (d (a % b) 3)]]) ∧ Below w.heap.size w w' := by
  subst hA hB
  obtain ⟨g, g1, g2, g3⟩ := guess_any _ _ a b rfl rfl ha.1 hb h0 hab
  exact digit_fn a b g w ha hb h0 g1 g2 g3
end Go.Proofs.Ytiglhgcckceikaa
