/- The stage's first law: its walk, to where quotients begin. -/
import Derived.Test.YtiglhgcckceikaaWa1
import Derived.Test.YtiglhgcckceikaaWu
import Derived.Deep.Cut
namespace Go.Proofs.Ytiglhgcckceikaa
open Go.RowKit

/-- the three numbers, where they lie -/
structure Law3 (w : World) (x y z : Int) (wz : World) : Prop where
  ha : wz.heap[w.heap.size]? = some (.cells #[.int .u64 (d x 0), .int .u64 (d x 1), .int .u64 (d x 2), .int .u64 (d x 3)] 24 (0, 0))
  hb : wz.heap[w.heap.size + 1]? = some (.cells #[.int .u64 (d y 0), .int .u64 (d y 1), .int .u64 (d y 2), .int .u64 (d y 3)] 24 (0, 0))
  hc : wz.heap[w.heap.size + 1 + 1]? = some (.cells #[.int .u64 (d z 0), .int .u64 (d z 1), .int .u64 (d z 2), .int .u64 (d z 3)] 24 (0, 0))
  hw : Below w.heap.size w wz
theorem Law3.next {w wz wa : World} {x y z : Int} (h : Law3 w x y z wz) (hb : Below wz.heap.size wz wa) : Law3 w x y z wa :=
  ⟨arow_below h.ha hb (arow_lt h.ha), arow_below h.hb hb (arow_lt h.hb), arow_below h.hc hb (arow_lt h.hc), h.hw.trans (hb.mono h.hw.size)⟩
theorem Law3.alloc {w wz : World} {x y z : Int} (o : Obj) (h : Law3 w x y z wz) : Law3 w x y z (wz.alloc o) := h.next (below1' wz o)
theorem Law3.drew {w wz : World} {x y z : Int} (h : Law3 w x y z wz) : Law3 w x y z wz.drew := ⟨h.ha, h.hb, h.hc, h.hw.drew⟩
theorem law_div (x y : Int) (hx : In 4 x) (hy : In 4 y) :
    ∃ q r : Int, ∃ bz : Bool, (bz = false → 0 < y ∧ q = x / y ∧ r = x % y) ∧ ∀ w, Calls Try.prog 26 #[.agg #[.int .u64 (d x 0), .int .u64 (d x 1), .int .u64 (d x 2), .int .u64 (d x 3)], .agg #[.int .u64 (d y 0), .int .u64 (d y 1), .int .u64 (d y 2), .int .u64 (d y 3)]] w fun e w' => e = .returned (.tuple #[.agg #[.int .u64 (d q 0), .int .u64 (d q 1), .int .u64 (d q 2), .int .u64 (d q 3)], .agg #[.int .u64 (d r 0), .int .u64 (d r 1), .int .u64 (d r 2), .int .u64 (d r 3)], .bool bz]) ∧ Below w.heap.size w w' := by
  by_cases h : y = 0
  · subst h
    exact ⟨0, 0, true, (fun c => by cases c), fun w => by rw [Q4_zero]; exact divmod_zero x w⟩
  · have h0 : 0 < y := by have := hy.1; omega
    exact ⟨x / y, x % y, false, fun _ => ⟨h0, rfl, rfl⟩, fun w => divmod_any _ _ x y w rfl rfl hx hy h0⟩
theorem law_quot (x y q r : Int) (hx : In 4 x) (hy : In 4 y) (h : 0 < y ∧ q = x / y ∧ r = x % y) :
    ∃ p : Int, (∀ w, Calls Try.prog 23 #[.agg #[.int .u64 (d q 0), .int .u64 (d q 1), .int .u64 (d q 2), .int .u64 (d q 3)], .agg #[.int .u64 (d y 0), .int .u64 (d y 1), .int .u64 (d y 2), .int .u64 (d y 3)]] w fun e w' => e = .returned (.agg #[.int .u64 (d p 0), .int .u64 (d p 1), .int .u64 (d p 2), .int .u64 (d p 3), .int .u64 (d p 4), .int .u64 (d p 5), .int .u64 (d p 6), .int .u64 (d p 7)]) ∧ Below w.heap.size w w') ∧
      (∀ w, Calls Try.prog 15 #[.agg #[.int .u64 (d p 0), .int .u64 (d p 1), .int .u64 (d p 2), .int .u64 (d p 3), .int .u64 (d p 4), .int .u64 (d p 5), .int .u64 (d p 6), .int .u64 (d p 7)]] w fun e w' => e = .returned (.tuple #[.agg #[.int .u64 (d p 0), .int .u64 (d p 1), .int .u64 (d p 2), .int .u64 (d p 3)], .bool false]) ∧ Below w.heap.size w w') ∧
      (∀ w, Calls Try.prog 9 #[.agg #[.int .u64 (d p 0), .int .u64 (d p 1), .int .u64 (d p 2), .int .u64 (d p 3)], .agg #[.int .u64 (d r 0), .int .u64 (d r 1), .int .u64 (d r 2), .int .u64 (d r 3)]] w fun e w' => e = .returned (.tuple #[.agg #[.int .u64 (d x 0), .int .u64 (d x 1), .int .u64 (d x 2), .int .u64 (d x 3)], .bool false]) ∧ Below w.heap.size w w') ∧
      (∀ w, Calls Try.prog 16 #[.agg #[.int .u64 (d r 0), .int .u64 (d r 1), .int .u64 (d r 2), .int .u64 (d r 3)], .agg #[.int .u64 (d y 0), .int .u64 (d y 1), .int .u64 (d y 2), .int .u64 (d y 3)]] w fun e w' => e = .returned (.int .i64 (-1)) ∧ Below w.heap.size w w') := by
  obtain ⟨h0, hq, hr⟩ := h
  have f := quot_facts x y hx h0
  rw [← hq, ← hr] at f
  obtain ⟨f1, f2, f3, f4, f5, f6⟩ := f
  have ri : In 4 r := ⟨f4, Int.lt_trans f5 hy.2⟩
  exact ⟨q * y, fun w => mul4_any _ _ q y w rfl rfl f1 hy, fun w => law_low _ w f2, fun w => law_back _ r x w f2 ri hx f6, fun w => law_rest r y w ri hy f5⟩
theorem hold8 {w wz : World} {x y z : Int} (h : Law3 w x y z wz) : wz.cell? ⟨w.heap.size, 0, none⟩ = some (.int .u64 (d x 0)) ∧ wz.cell? ⟨w.heap.size, 1, none⟩ = some (.int .u64 (d x 1)) ∧ wz.cell? ⟨w.heap.size, 2, none⟩ = some (.int .u64 (d x 2)) ∧ wz.cell? ⟨w.heap.size, 3, none⟩ = some (.int .u64 (d x 3)) ∧ wz.cell? ⟨w.heap.size + 1, 0, none⟩ = some (.int .u64 (d y 0)) ∧ wz.cell? ⟨w.heap.size + 1, 1, none⟩ = some (.int .u64 (d y 1)) ∧ wz.cell? ⟨w.heap.size + 1, 2, none⟩ = some (.int .u64 (d y 2)) ∧ wz.cell? ⟨w.heap.size + 1, 3, none⟩ = some (.int .u64 (d y 3)) ∧ Law3 w x y z wz := by
  obtain ⟨a0, a1, a2, a3⟩ := cells4 h.ha
  obtain ⟨b0, b1, b2, b3⟩ := cells4 h.hb
  exact ⟨a0, a1, a2, a3, b0, b1, b2, b3, h⟩
theorem hold8_next {w wz wa : World} {x y z : Int} (h : wz.cell? ⟨w.heap.size, 0, none⟩ = some (.int .u64 (d x 0)) ∧ wz.cell? ⟨w.heap.size, 1, none⟩ = some (.int .u64 (d x 1)) ∧ wz.cell? ⟨w.heap.size, 2, none⟩ = some (.int .u64 (d x 2)) ∧ wz.cell? ⟨w.heap.size, 3, none⟩ = some (.int .u64 (d x 3)) ∧ wz.cell? ⟨w.heap.size + 1, 0, none⟩ = some (.int .u64 (d y 0)) ∧ wz.cell? ⟨w.heap.size + 1, 1, none⟩ = some (.int .u64 (d y 1)) ∧ wz.cell? ⟨w.heap.size + 1, 2, none⟩ = some (.int .u64 (d y 2)) ∧ wz.cell? ⟨w.heap.size + 1, 3, none⟩ = some (.int .u64 (d y 3)) ∧ Law3 w x y z wz) (hb : Below wz.heap.size wz wa) : wa.cell? ⟨w.heap.size, 0, none⟩ = some (.int .u64 (d x 0)) ∧ wa.cell? ⟨w.heap.size, 1, none⟩ = some (.int .u64 (d x 1)) ∧ wa.cell? ⟨w.heap.size, 2, none⟩ = some (.int .u64 (d x 2)) ∧ wa.cell? ⟨w.heap.size, 3, none⟩ = some (.int .u64 (d x 3)) ∧ wa.cell? ⟨w.heap.size + 1, 0, none⟩ = some (.int .u64 (d y 0)) ∧ wa.cell? ⟨w.heap.size + 1, 1, none⟩ = some (.int .u64 (d y 1)) ∧ wa.cell? ⟨w.heap.size + 1, 2, none⟩ = some (.int .u64 (d y 2)) ∧ wa.cell? ⟨w.heap.size + 1, 3, none⟩ = some (.int .u64 (d y 3)) ∧ Law3 w x y z wa := hold8 (h.2.2.2.2.2.2.2.2.next hb)
theorem hold8_last {w wz : World} {x y z : Int} (h : wz.cell? ⟨w.heap.size, 0, none⟩ = some (.int .u64 (d x 0)) ∧ wz.cell? ⟨w.heap.size, 1, none⟩ = some (.int .u64 (d x 1)) ∧ wz.cell? ⟨w.heap.size, 2, none⟩ = some (.int .u64 (d x 2)) ∧ wz.cell? ⟨w.heap.size, 3, none⟩ = some (.int .u64 (d x 3)) ∧ wz.cell? ⟨w.heap.size + 1, 0, none⟩ = some (.int .u64 (d y 0)) ∧ wz.cell? ⟨w.heap.size + 1, 1, none⟩ = some (.int .u64 (d y 1)) ∧ wz.cell? ⟨w.heap.size + 1, 2, none⟩ = some (.int .u64 (d y 2)) ∧ wz.cell? ⟨w.heap.size + 1, 3, none⟩ = some (.int .u64 (d y 3)) ∧ Law3 w x y z wz) : Law3 w x y z wz := h.2.2.2.2.2.2.2.2
/-- and a fourth, made on the way -/
structure Law4 (w : World) (x y z : Int) (m : Nat) (s : Int) (wz : World) : Prop where
  h3 : Law3 w x y z wz
  hm : wz.heap[m]? = some (.cells #[.int .u64 (d s 0), .int .u64 (d s 1), .int .u64 (d s 2), .int .u64 (d s 3)] 24 (0, 0))
theorem Law4.next {w wz wa : World} {x y z s : Int} {m : Nat} (h : Law4 w x y z m s wz) (hb : Below wz.heap.size wz wa) : Law4 w x y z m s wa := ⟨h.h3.next hb, arow_below h.hm hb (arow_lt h.hm)⟩
theorem Law4.set8 {w wz : World} {x y z s : Int} {m M : Nat} {v0 v1 v2 v3 v4 v5 v6 v7 : Value} (h : Law4 w x y z m s wz) (h1 : w.heap.size + 1 + 1 < M) (h2 : m < M) : Law4 w x y z m s ((((((((wz.setCell ⟨M, 0, none⟩ v0).setCell ⟨M, 1, none⟩ v1).setCell ⟨M, 2, none⟩ v2).setCell ⟨M, 3, none⟩ v3).setCell ⟨M, 4, none⟩ v4).setCell ⟨M, 5, none⟩ v5).setCell ⟨M, 6, none⟩ v6).setCell ⟨M, 7, none⟩ v7) :=
  ⟨⟨far8 (by omega) h.h3.ha, far8 (by omega) h.h3.hb, far8 (by omega) h.h3.hc, below_set8 h.h3.hw (by omega)⟩, far8 (by omega) h.hm⟩
theorem hold12 {w wz : World} {x y z s : Int} {m : Nat} (h : Law4 w x y z m s wz) : wz.cell? ⟨w.heap.size, 0, none⟩ = some (.int .u64 (d x 0)) ∧ wz.cell? ⟨w.heap.size, 1, none⟩ = some (.int .u64 (d x 1)) ∧ wz.cell? ⟨w.heap.size, 2, none⟩ = some (.int .u64 (d x 2)) ∧ wz.cell? ⟨w.heap.size, 3, none⟩ = some (.int .u64 (d x 3)) ∧ wz.cell? ⟨w.heap.size + 1, 0, none⟩ = some (.int .u64 (d y 0)) ∧ wz.cell? ⟨w.heap.size + 1, 1, none⟩ = some (.int .u64 (d y 1)) ∧ wz.cell? ⟨w.heap.size + 1, 2, none⟩ = some (.int .u64 (d y 2)) ∧ wz.cell? ⟨w.heap.size + 1, 3, none⟩ = some (.int .u64 (d y 3)) ∧ wz.cell? ⟨w.heap.size + 1 + 1, 0, none⟩ = some (.int .u64 (d z 0)) ∧ wz.cell? ⟨w.heap.size + 1 + 1, 1, none⟩ = some (.int .u64 (d z 1)) ∧ wz.cell? ⟨w.heap.size + 1 + 1, 2, none⟩ = some (.int .u64 (d z 2)) ∧ wz.cell? ⟨w.heap.size + 1 + 1, 3, none⟩ = some (.int .u64 (d z 3)) ∧ w.heap.size + 1 + 1 < wz.heap.size ∧ m < wz.heap.size ∧ Law4 w x y z m s wz := by
  obtain ⟨a0, a1, a2, a3⟩ := cells4 h.h3.ha
  obtain ⟨b0, b1, b2, b3⟩ := cells4 h.h3.hb
  obtain ⟨c0, c1, c2, c3⟩ := cells4 h.h3.hc
  exact ⟨a0, a1, a2, a3, b0, b1, b2, b3, c0, c1, c2, c3, arow_lt h.h3.hc, arow_lt h.hm, h⟩
theorem hold12_last {w wz : World} {x y z s : Int} {m : Nat} (h : wz.cell? ⟨w.heap.size, 0, none⟩ = some (.int .u64 (d x 0)) ∧ wz.cell? ⟨w.heap.size, 1, none⟩ = some (.int .u64 (d x 1)) ∧ wz.cell? ⟨w.heap.size, 2, none⟩ = some (.int .u64 (d x 2)) ∧ wz.cell? ⟨w.heap.size, 3, none⟩ = some (.int .u64 (d x 3)) ∧ wz.cell? ⟨w.heap.size + 1, 0, none⟩ = some (.int .u64 (d y 0)) ∧ wz.cell? ⟨w.heap.size + 1, 1, none⟩ = some (.int .u64 (d y 1)) ∧ wz.cell? ⟨w.heap.size + 1, 2, none⟩ = some (.int .u64 (d y 2)) ∧ wz.cell? ⟨w.heap.size + 1, 3, none⟩ = some (.int .u64 (d y 3)) ∧ wz.cell? ⟨w.heap.size + 1 + 1, 0, none⟩ = some (.int .u64 (d z 0)) ∧ wz.cell? ⟨w.heap.size + 1 + 1, 1, none⟩ = some (.int .u64 (d z 1)) ∧ wz.cell? ⟨w.heap.size + 1 + 1, 2, none⟩ = some (.int .u64 (d z 2)) ∧ wz.cell? ⟨w.heap.size + 1 + 1, 3, none⟩ = some (.int .u64 (d z 3)) ∧ w.heap.size + 1 + 1 < wz.heap.size ∧ m < wz.heap.size ∧ Law4 w x y z m s wz) : Law4 w x y z m s wz := h.2.2.2.2.2.2.2.2.2.2.2.2.2.2
theorem hold12_next {w wz wa : World} {x y z s : Int} {m : Nat} (h : wz.cell? ⟨w.heap.size, 0, none⟩ = some (.int .u64 (d x 0)) ∧ wz.cell? ⟨w.heap.size, 1, none⟩ = some (.int .u64 (d x 1)) ∧ wz.cell? ⟨w.heap.size, 2, none⟩ = some (.int .u64 (d x 2)) ∧ wz.cell? ⟨w.heap.size, 3, none⟩ = some (.int .u64 (d x 3)) ∧ wz.cell? ⟨w.heap.size + 1, 0, none⟩ = some (.int .u64 (d y 0)) ∧ wz.cell? ⟨w.heap.size + 1, 1, none⟩ = some (.int .u64 (d y 1)) ∧ wz.cell? ⟨w.heap.size + 1, 2, none⟩ = some (.int .u64 (d y 2)) ∧ wz.cell? ⟨w.heap.size + 1, 3, none⟩ = some (.int .u64 (d y 3)) ∧ wz.cell? ⟨w.heap.size + 1 + 1, 0, none⟩ = some (.int .u64 (d z 0)) ∧ wz.cell? ⟨w.heap.size + 1 + 1, 1, none⟩ = some (.int .u64 (d z 1)) ∧ wz.cell? ⟨w.heap.size + 1 + 1, 2, none⟩ = some (.int .u64 (d z 2)) ∧ wz.cell? ⟨w.heap.size + 1 + 1, 3, none⟩ = some (.int .u64 (d z 3)) ∧ w.heap.size + 1 + 1 < wz.heap.size ∧ m < wz.heap.size ∧ Law4 w x y z m s wz) (hb : Below wz.heap.size wz wa) : wa.cell? ⟨w.heap.size, 0, none⟩ = some (.int .u64 (d x 0)) ∧ wa.cell? ⟨w.heap.size, 1, none⟩ = some (.int .u64 (d x 1)) ∧ wa.cell? ⟨w.heap.size, 2, none⟩ = some (.int .u64 (d x 2)) ∧ wa.cell? ⟨w.heap.size, 3, none⟩ = some (.int .u64 (d x 3)) ∧ wa.cell? ⟨w.heap.size + 1, 0, none⟩ = some (.int .u64 (d y 0)) ∧ wa.cell? ⟨w.heap.size + 1, 1, none⟩ = some (.int .u64 (d y 1)) ∧ wa.cell? ⟨w.heap.size + 1, 2, none⟩ = some (.int .u64 (d y 2)) ∧ wa.cell? ⟨w.heap.size + 1, 3, none⟩ = some (.int .u64 (d y 3)) ∧ wa.cell? ⟨w.heap.size + 1 + 1, 0, none⟩ = some (.int .u64 (d z 0)) ∧ wa.cell? ⟨w.heap.size + 1 + 1, 1, none⟩ = some (.int .u64 (d z 1)) ∧ wa.cell? ⟨w.heap.size + 1 + 1, 2, none⟩ = some (.int .u64 (d z 2)) ∧ wa.cell? ⟨w.heap.size + 1 + 1, 3, none⟩ = some (.int .u64 (d z 3)) ∧ w.heap.size + 1 + 1 < wa.heap.size ∧ m < wa.heap.size ∧ Law4 w x y z m s wa := hold12 ((hold12_last h).next hb)
theorem hold12_alloc {w wz : World} {x y z s : Int} {m : Nat} (o : Obj) (h : wz.cell? ⟨w.heap.size, 0, none⟩ = some (.int .u64 (d x 0)) ∧ wz.cell? ⟨w.heap.size, 1, none⟩ = some (.int .u64 (d x 1)) ∧ wz.cell? ⟨w.heap.size, 2, none⟩ = some (.int .u64 (d x 2)) ∧ wz.cell? ⟨w.heap.size, 3, none⟩ = some (.int .u64 (d x 3)) ∧ wz.cell? ⟨w.heap.size + 1, 0, none⟩ = some (.int .u64 (d y 0)) ∧ wz.cell? ⟨w.heap.size + 1, 1, none⟩ = some (.int .u64 (d y 1)) ∧ wz.cell? ⟨w.heap.size + 1, 2, none⟩ = some (.int .u64 (d y 2)) ∧ wz.cell? ⟨w.heap.size + 1, 3, none⟩ = some (.int .u64 (d y 3)) ∧ wz.cell? ⟨w.heap.size + 1 + 1, 0, none⟩ = some (.int .u64 (d z 0)) ∧ wz.cell? ⟨w.heap.size + 1 + 1, 1, none⟩ = some (.int .u64 (d z 1)) ∧ wz.cell? ⟨w.heap.size + 1 + 1, 2, none⟩ = some (.int .u64 (d z 2)) ∧ wz.cell? ⟨w.heap.size + 1 + 1, 3, none⟩ = some (.int .u64 (d z 3)) ∧ w.heap.size + 1 + 1 < wz.heap.size ∧ m < wz.heap.size ∧ Law4 w x y z m s wz) : (wz.alloc o).cell? ⟨w.heap.size, 0, none⟩ = some (.int .u64 (d x 0)) ∧ (wz.alloc o).cell? ⟨w.heap.size, 1, none⟩ = some (.int .u64 (d x 1)) ∧ (wz.alloc o).cell? ⟨w.heap.size, 2, none⟩ = some (.int .u64 (d x 2)) ∧ (wz.alloc o).cell? ⟨w.heap.size, 3, none⟩ = some (.int .u64 (d x 3)) ∧ (wz.alloc o).cell? ⟨w.heap.size + 1, 0, none⟩ = some (.int .u64 (d y 0)) ∧ (wz.alloc o).cell? ⟨w.heap.size + 1, 1, none⟩ = some (.int .u64 (d y 1)) ∧ (wz.alloc o).cell? ⟨w.heap.size + 1, 2, none⟩ = some (.int .u64 (d y 2)) ∧ (wz.alloc o).cell? ⟨w.heap.size + 1, 3, none⟩ = some (.int .u64 (d y 3)) ∧ (wz.alloc o).cell? ⟨w.heap.size + 1 + 1, 0, none⟩ = some (.int .u64 (d z 0)) ∧ (wz.alloc o).cell? ⟨w.heap.size + 1 + 1, 1, none⟩ = some (.int .u64 (d z 1)) ∧ (wz.alloc o).cell? ⟨w.heap.size + 1 + 1, 2, none⟩ = some (.int .u64 (d z 2)) ∧ (wz.alloc o).cell? ⟨w.heap.size + 1 + 1, 3, none⟩ = some (.int .u64 (d z 3)) ∧ w.heap.size + 1 + 1 < (wz.alloc o).heap.size ∧ m < (wz.alloc o).heap.size ∧ Law4 w x y z m s (wz.alloc o) := hold12_next h (below1' wz o)
theorem hold12_drew {w wz : World} {x y z s : Int} {m : Nat} (h : wz.cell? ⟨w.heap.size, 0, none⟩ = some (.int .u64 (d x 0)) ∧ wz.cell? ⟨w.heap.size, 1, none⟩ = some (.int .u64 (d x 1)) ∧ wz.cell? ⟨w.heap.size, 2, none⟩ = some (.int .u64 (d x 2)) ∧ wz.cell? ⟨w.heap.size, 3, none⟩ = some (.int .u64 (d x 3)) ∧ wz.cell? ⟨w.heap.size + 1, 0, none⟩ = some (.int .u64 (d y 0)) ∧ wz.cell? ⟨w.heap.size + 1, 1, none⟩ = some (.int .u64 (d y 1)) ∧ wz.cell? ⟨w.heap.size + 1, 2, none⟩ = some (.int .u64 (d y 2)) ∧ wz.cell? ⟨w.heap.size + 1, 3, none⟩ = some (.int .u64 (d y 3)) ∧ wz.cell? ⟨w.heap.size + 1 + 1, 0, none⟩ = some (.int .u64 (d z 0)) ∧ wz.cell? ⟨w.heap.size + 1 + 1, 1, none⟩ = some (.int .u64 (d z 1)) ∧ wz.cell? ⟨w.heap.size + 1 + 1, 2, none⟩ = some (.int .u64 (d z 2)) ∧ wz.cell? ⟨w.heap.size + 1 + 1, 3, none⟩ = some (.int .u64 (d z 3)) ∧ w.heap.size + 1 + 1 < wz.heap.size ∧ m < wz.heap.size ∧ Law4 w x y z m s wz) : wz.drew.cell? ⟨w.heap.size, 0, none⟩ = some (.int .u64 (d x 0)) ∧ wz.drew.cell? ⟨w.heap.size, 1, none⟩ = some (.int .u64 (d x 1)) ∧ wz.drew.cell? ⟨w.heap.size, 2, none⟩ = some (.int .u64 (d x 2)) ∧ wz.drew.cell? ⟨w.heap.size, 3, none⟩ = some (.int .u64 (d x 3)) ∧ wz.drew.cell? ⟨w.heap.size + 1, 0, none⟩ = some (.int .u64 (d y 0)) ∧ wz.drew.cell? ⟨w.heap.size + 1, 1, none⟩ = some (.int .u64 (d y 1)) ∧ wz.drew.cell? ⟨w.heap.size + 1, 2, none⟩ = some (.int .u64 (d y 2)) ∧ wz.drew.cell? ⟨w.heap.size + 1, 3, none⟩ = some (.int .u64 (d y 3)) ∧ wz.drew.cell? ⟨w.heap.size + 1 + 1, 0, none⟩ = some (.int .u64 (d z 0)) ∧ wz.drew.cell? ⟨w.heap.size + 1 + 1, 1, none⟩ = some (.int .u64 (d z 1)) ∧ wz.drew.cell? ⟨w.heap.size + 1 + 1, 2, none⟩ = some (.int .u64 (d z 2)) ∧ wz.drew.cell? ⟨w.heap.size + 1 + 1, 3, none⟩ = some (.int .u64 (d z 3)) ∧ w.heap.size + 1 + 1 < wz.drew.heap.size ∧ m < wz.drew.heap.size ∧ Law4 w x y z m s wz.drew := h.imp id (fun _ => ⟨h.2.1, h.2.2.1, h.2.2.2.1, h.2.2.2.2.1, h.2.2.2.2.2.1, h.2.2.2.2.2.2.1, h.2.2.2.2.2.2.2.1, h.2.2.2.2.2.2.2.2.1, h.2.2.2.2.2.2.2.2.2.1, h.2.2.2.2.2.2.2.2.2.2.1, h.2.2.2.2.2.2.2.2.2.2.2.1, h.2.2.2.2.2.2.2.2.2.2.2.2.1, h.2.2.2.2.2.2.2.2.2.2.2.2.2.1, ⟨(hold12_last h).h3.drew, (hold12_last h).hm⟩⟩)
theorem hold12_set {w wz : World} {x y z s : Int} {m M : Nat} {v0 v1 v2 v3 v4 v5 v6 v7 : Value} (h1 : w.heap.size + 1 + 1 < M) (h2 : m < M) (h : wz.cell? ⟨w.heap.size, 0, none⟩ = some (.int .u64 (d x 0)) ∧ wz.cell? ⟨w.heap.size, 1, none⟩ = some (.int .u64 (d x 1)) ∧ wz.cell? ⟨w.heap.size, 2, none⟩ = some (.int .u64 (d x 2)) ∧ wz.cell? ⟨w.heap.size, 3, none⟩ = some (.int .u64 (d x 3)) ∧ wz.cell? ⟨w.heap.size + 1, 0, none⟩ = some (.int .u64 (d y 0)) ∧ wz.cell? ⟨w.heap.size + 1, 1, none⟩ = some (.int .u64 (d y 1)) ∧ wz.cell? ⟨w.heap.size + 1, 2, none⟩ = some (.int .u64 (d y 2)) ∧ wz.cell? ⟨w.heap.size + 1, 3, none⟩ = some (.int .u64 (d y 3)) ∧ wz.cell? ⟨w.heap.size + 1 + 1, 0, none⟩ = some (.int .u64 (d z 0)) ∧ wz.cell? ⟨w.heap.size + 1 + 1, 1, none⟩ = some (.int .u64 (d z 1)) ∧ wz.cell? ⟨w.heap.size + 1 + 1, 2, none⟩ = some (.int .u64 (d z 2)) ∧ wz.cell? ⟨w.heap.size + 1 + 1, 3, none⟩ = some (.int .u64 (d z 3)) ∧ w.heap.size + 1 + 1 < wz.heap.size ∧ m < wz.heap.size ∧ Law4 w x y z m s wz) : ((((((((wz.setCell ⟨M, 0, none⟩ v0).setCell ⟨M, 1, none⟩ v1).setCell ⟨M, 2, none⟩ v2).setCell ⟨M, 3, none⟩ v3).setCell ⟨M, 4, none⟩ v4).setCell ⟨M, 5, none⟩ v5).setCell ⟨M, 6, none⟩ v6).setCell ⟨M, 7, none⟩ v7).cell? ⟨w.heap.size, 0, none⟩ = some (.int .u64 (d x 0)) ∧ ((((((((wz.setCell ⟨M, 0, none⟩ v0).setCell ⟨M, 1, none⟩ v1).setCell ⟨M, 2, none⟩ v2).setCell ⟨M, 3, none⟩ v3).setCell ⟨M, 4, none⟩ v4).setCell ⟨M, 5, none⟩ v5).setCell ⟨M, 6, none⟩ v6).setCell ⟨M, 7, none⟩ v7).cell? ⟨w.heap.size, 1, none⟩ = some (.int .u64 (d x 1)) ∧ ((((((((wz.setCell ⟨M, 0, none⟩ v0).setCell ⟨M, 1, none⟩ v1).setCell ⟨M, 2, none⟩ v2).setCell ⟨M, 3, none⟩ v3).setCell ⟨M, 4, none⟩ v4).setCell ⟨M, 5, none⟩ v5).setCell ⟨M, 6, none⟩ v6).setCell ⟨M, 7, none⟩ v7).cell? ⟨w.heap.size, 2, none⟩ = some (.int .u64 (d x 2)) ∧ ((((((((wz.setCell ⟨M, 0, none⟩ v0).setCell ⟨M, 1, none⟩ v1).setCell ⟨M, 2, none⟩ v2).setCell ⟨M, 3, none⟩ v3).setCell ⟨M, 4, none⟩ v4).setCell ⟨M, 5, none⟩ v5).setCell ⟨M, 6, none⟩ v6).setCell ⟨M, 7, none⟩ v7).cell? ⟨w.heap.size, 3, none⟩ = some (.int .u64 (d x 3)) ∧ ((((((((wz.setCell ⟨M, 0, none⟩ v0).setCell ⟨M, 1, none⟩ v1).setCell ⟨M, 2, none⟩ v2).setCell ⟨M, 3, none⟩ v3).setCell ⟨M, 4, none⟩ v4).setCell ⟨M, 5, none⟩ v5).setCell ⟨M, 6, none⟩ v6).setCell ⟨M, 7, none⟩ v7).cell? ⟨w.heap.size + 1, 0, none⟩ = some (.int .u64 (d y 0)) ∧ ((((((((wz.setCell ⟨M, 0, none⟩ v0).setCell ⟨M, 1, none⟩ v1).setCell ⟨M, 2, none⟩ v2).setCell ⟨M, 3, none⟩ v3).setCell ⟨M, 4, none⟩ v4).setCell ⟨M, 5, none⟩ v5).setCell ⟨M, 6, none⟩ v6).setCell ⟨M, 7, none⟩ v7).cell? ⟨w.heap.size + 1, 1, none⟩ = some (.int .u64 (d y 1)) ∧ ((((((((wz.setCell ⟨M, 0, none⟩ v0).setCell ⟨M, 1, none⟩ v1).setCell ⟨M, 2, none⟩ v2).setCell ⟨M, 3, none⟩ v3).setCell ⟨M, 4, none⟩ v4).setCell ⟨M, 5, none⟩ v5).setCell ⟨M, 6, none⟩ v6).setCell ⟨M, 7, none⟩ v7).cell? ⟨w.heap.size + 1, 2, none⟩ = some (.int .u64 (d y 2)) ∧ ((((((((wz.setCell ⟨M, 0, none⟩ v0).setCell ⟨M, 1, none⟩ v1).setCell ⟨M, 2, none⟩ v2).setCell ⟨M, 3, none⟩ v3).setCell ⟨M, 4, none⟩ v4).setCell ⟨M, 5, none⟩ v5).setCell ⟨M, 6, none⟩ v6).setCell ⟨M, 7, none⟩ v7).cell? ⟨w.heap.size + 1, 3, none⟩ = some (.int .u64 (d y 3)) ∧ ((((((((wz.setCell ⟨M, 0, none⟩ v0).setCell ⟨M, 1, none⟩ v1).setCell ⟨M, 2, none⟩ v2).setCell ⟨M, 3, none⟩ v3).setCell ⟨M, 4, none⟩ v4).setCell ⟨M, 5, none⟩ v5).setCell ⟨M, 6, none⟩ v6).setCell ⟨M, 7, none⟩ v7).cell? ⟨w.heap.size + 1 + 1, 0, none⟩ = some (.int .u64 (d z 0)) ∧ ((((((((wz.setCell ⟨M, 0, none⟩ v0).setCell ⟨M, 1, none⟩ v1).setCell ⟨M, 2, none⟩ v2).setCell ⟨M, 3, none⟩ v3).setCell ⟨M, 4, none⟩ v4).setCell ⟨M, 5, none⟩ v5).setCell ⟨M, 6, none⟩ v6).setCell ⟨M, 7, none⟩ v7).cell? ⟨w.heap.size + 1 + 1, 1, none⟩ = some (.int .u64 (d z 1)) ∧ ((((((((wz.setCell ⟨M, 0, none⟩ v0).setCell ⟨M, 1, none⟩ v1).setCell ⟨M, 2, none⟩ v2).setCell ⟨M, 3, none⟩ v3).setCell ⟨M, 4, none⟩ v4).setCell ⟨M, 5, none⟩ v5).setCell ⟨M, 6, none⟩ v6).setCell ⟨M, 7, none⟩ v7).cell? ⟨w.heap.size + 1 + 1, 2, none⟩ = some (.int .u64 (d z 2)) ∧ ((((((((wz.setCell ⟨M, 0, none⟩ v0).setCell ⟨M, 1, none⟩ v1).setCell ⟨M, 2, none⟩ v2).setCell ⟨M, 3, none⟩ v3).setCell ⟨M, 4, none⟩ v4).setCell ⟨M, 5, none⟩ v5).setCell ⟨M, 6, none⟩ v6).setCell ⟨M, 7, none⟩ v7).cell? ⟨w.heap.size + 1 + 1, 3, none⟩ = some (.int .u64 (d z 3)) ∧ w.heap.size + 1 + 1 < ((((((((wz.setCell ⟨M, 0, none⟩ v0).setCell ⟨M, 1, none⟩ v1).setCell ⟨M, 2, none⟩ v2).setCell ⟨M, 3, none⟩ v3).setCell ⟨M, 4, none⟩ v4).setCell ⟨M, 5, none⟩ v5).setCell ⟨M, 6, none⟩ v6).setCell ⟨M, 7, none⟩ v7).heap.size ∧ m < ((((((((wz.setCell ⟨M, 0, none⟩ v0).setCell ⟨M, 1, none⟩ v1).setCell ⟨M, 2, none⟩ v2).setCell ⟨M, 3, none⟩ v3).setCell ⟨M, 4, none⟩ v4).setCell ⟨M, 5, none⟩ v5).setCell ⟨M, 6, none⟩ v6).setCell ⟨M, 7, none⟩ v7).heap.size ∧ Law4 w x y z m s ((((((((wz.setCell ⟨M, 0, none⟩ v0).setCell ⟨M, 1, none⟩ v1).setCell ⟨M, 2, none⟩ v2).setCell ⟨M, 3, none⟩ v3).setCell ⟨M, 4, none⟩ v4).setCell ⟨M, 5, none⟩ v5).setCell ⟨M, 6, none⟩ v6).setCell ⟨M, 7, none⟩ v7) := hold12 ((hold12_last h).set8 h1 h2)
theorem row_next {wz wa : World} {M : Nat} {R : Array Value} {T : TypeId} (hb : Below wz.heap.size wz wa) (h : wz.heap[M]? = some (.cells R T (0, 0))) : wa.heap[M]? = some (.cells R T (0, 0)) := arow_below h hb (arow_lt h)
theorem row_drew {wz : World} {M : Nat} {o : Option Obj} (h : wz.heap[M]? = o) : wz.drew.heap[M]? = o := h
theorem end2 {wb wc : World} {T : TypeId} {v0 v1 v2 v3 v4 v5 v6 v7 : Value} (h3 : Below (wb.alloc (.cells #[.int .u64 0, .int .u64 0, .int .u64 0, .int .u64 0, .int .u64 0, .int .u64 0, .int .u64 0, .int .u64 0] T)).heap.size (wb.alloc (.cells #[.int .u64 0, .int .u64 0, .int .u64 0, .int .u64 0, .int .u64 0, .int .u64 0, .int .u64 0, .int .u64 0] T)) wc) :
    ((((((((wc.setCell ⟨wb.heap.size, 0, none⟩ v0).setCell ⟨wb.heap.size, 1, none⟩ v1).setCell ⟨wb.heap.size, 2, none⟩ v2).setCell ⟨wb.heap.size, 3, none⟩ v3).setCell ⟨wb.heap.size, 4, none⟩ v4).setCell ⟨wb.heap.size, 5, none⟩ v5).setCell ⟨wb.heap.size, 6, none⟩ v6).setCell ⟨wb.heap.size, 7, none⟩ v7).heap[wb.heap.size]? = some (.cells #[v0, v1, v2, v3, v4, v5, v6, v7] T (0, 0)) := set8 (row_next h3 (arow_new _ _ _))
theorem end3 {wa wb wc : World} {T : TypeId} {v0 v1 v2 v3 v4 v5 v6 v7 : Value} (h2 : Below (wa.alloc (.cells #[.int .u64 0, .int .u64 0, .int .u64 0, .int .u64 0, .int .u64 0, .int .u64 0, .int .u64 0, .int .u64 0] T)).heap.size (wa.alloc (.cells #[.int .u64 0, .int .u64 0, .int .u64 0, .int .u64 0, .int .u64 0, .int .u64 0, .int .u64 0, .int .u64 0] T)) wb) (h3 : Below wb.heap.size wb wc) :
    ((((((((wc.setCell ⟨wa.heap.size, 0, none⟩ v0).setCell ⟨wa.heap.size, 1, none⟩ v1).setCell ⟨wa.heap.size, 2, none⟩ v2).setCell ⟨wa.heap.size, 3, none⟩ v3).setCell ⟨wa.heap.size, 4, none⟩ v4).setCell ⟨wa.heap.size, 5, none⟩ v5).setCell ⟨wa.heap.size, 6, none⟩ v6).setCell ⟨wa.heap.size, 7, none⟩ v7).heap[wa.heap.size]? = some (.cells #[v0, v1, v2, v3, v4, v5, v6, v7] T (0, 0)) := set8 (row_next h3 (row_next h2 (arow_new _ _ _)))
theorem end4 {v wa wb wc : World} {T : TypeId} {v0 v1 v2 v3 v4 v5 v6 v7 : Value} (h1 : Below (v.alloc (.cells #[.int .u64 0, .int .u64 0, .int .u64 0, .int .u64 0, .int .u64 0, .int .u64 0, .int .u64 0, .int .u64 0] T)).drew.heap.size (v.alloc (.cells #[.int .u64 0, .int .u64 0, .int .u64 0, .int .u64 0, .int .u64 0, .int .u64 0, .int .u64 0, .int .u64 0] T)).drew wa) (h2 : Below wa.heap.size wa wb) (h3 : Below wb.heap.size wb wc) :
    ((((((((wc.setCell ⟨v.heap.size, 0, none⟩ v0).setCell ⟨v.heap.size, 1, none⟩ v1).setCell ⟨v.heap.size, 2, none⟩ v2).setCell ⟨v.heap.size, 3, none⟩ v3).setCell ⟨v.heap.size, 4, none⟩ v4).setCell ⟨v.heap.size, 5, none⟩ v5).setCell ⟨v.heap.size, 6, none⟩ v6).setCell ⟨v.heap.size, 7, none⟩ v7).heap[v.heap.size]? = some (.cells #[v0, v1, v2, v3, v4, v5, v6, v7] T (0, 0)) := set8 (row_next h3 (row_next h2 (row_next h1 (row_drew (arow_new _ _ _)))))
/-- and a fifth, of eight limbs -/
structure Law5 (w : World) (x y z : Int) (m : Nat) (s : Int) (k : Nat) (t : Int) (wz : World) : Prop where
  h4 : Law4 w x y z m s wz
  hk : wz.heap[k]? = some (.cells #[.int .u64 (d t 0), .int .u64 (d t 1), .int .u64 (d t 2), .int .u64 (d t 3), .int .u64 (d t 4), .int .u64 (d t 5), .int .u64 (d t 6), .int .u64 (d t 7)] 26 (0, 0))
theorem Law5.next {w wz wa : World} {x y z s t : Int} {m k : Nat} (h : Law5 w x y z m s k t wz) (hb : Below wz.heap.size wz wa) : Law5 w x y z m s k t wa := ⟨h.h4.next hb, arow_below h.hk hb (arow_lt h.hk)⟩
theorem Law5.drew {w wz : World} {x y z s t : Int} {m k : Nat} (h : Law5 w x y z m s k t wz) : Law5 w x y z m s k t wz.drew := ⟨⟨h.h4.h3.drew, h.h4.hm⟩, h.hk⟩
theorem hold16 {w wz : World} {x y z s t : Int} {m k : Nat} (h : Law5 w x y z m s k t wz) : wz.cell? ⟨w.heap.size, 0, none⟩ = some (.int .u64 (d x 0)) ∧ wz.cell? ⟨w.heap.size, 1, none⟩ = some (.int .u64 (d x 1)) ∧ wz.cell? ⟨w.heap.size, 2, none⟩ = some (.int .u64 (d x 2)) ∧ wz.cell? ⟨w.heap.size, 3, none⟩ = some (.int .u64 (d x 3)) ∧ wz.cell? ⟨m, 0, none⟩ = some (.int .u64 (d s 0)) ∧ wz.cell? ⟨m, 1, none⟩ = some (.int .u64 (d s 1)) ∧ wz.cell? ⟨m, 2, none⟩ = some (.int .u64 (d s 2)) ∧ wz.cell? ⟨m, 3, none⟩ = some (.int .u64 (d s 3)) ∧ wz.cell? ⟨k, 0, none⟩ = some (.int .u64 (d t 0)) ∧ wz.cell? ⟨k, 1, none⟩ = some (.int .u64 (d t 1)) ∧ wz.cell? ⟨k, 2, none⟩ = some (.int .u64 (d t 2)) ∧ wz.cell? ⟨k, 3, none⟩ = some (.int .u64 (d t 3)) ∧ wz.cell? ⟨k, 4, none⟩ = some (.int .u64 (d t 4)) ∧ wz.cell? ⟨k, 5, none⟩ = some (.int .u64 (d t 5)) ∧ wz.cell? ⟨k, 6, none⟩ = some (.int .u64 (d t 6)) ∧ wz.cell? ⟨k, 7, none⟩ = some (.int .u64 (d t 7)) ∧ Law5 w x y z m s k t wz := by
  obtain ⟨a0, a1, a2, a3⟩ := cells4 h.h4.h3.ha
  obtain ⟨b0, b1, b2, b3⟩ := cells4 h.h4.hm
  exact ⟨a0, a1, a2, a3, b0, b1, b2, b3, (arow_cell h.hk 0).trans rfl, (arow_cell h.hk 1).trans rfl, (arow_cell h.hk 2).trans rfl, (arow_cell h.hk 3).trans rfl, (arow_cell h.hk 4).trans rfl, (arow_cell h.hk 5).trans rfl, (arow_cell h.hk 6).trans rfl, (arow_cell h.hk 7).trans rfl, h⟩
theorem hold16_last {w wz : World} {x y z s t : Int} {m k : Nat} (h : wz.cell? ⟨w.heap.size, 0, none⟩ = some (.int .u64 (d x 0)) ∧ wz.cell? ⟨w.heap.size, 1, none⟩ = some (.int .u64 (d x 1)) ∧ wz.cell? ⟨w.heap.size, 2, none⟩ = some (.int .u64 (d x 2)) ∧ wz.cell? ⟨w.heap.size, 3, none⟩ = some (.int .u64 (d x 3)) ∧ wz.cell? ⟨m, 0, none⟩ = some (.int .u64 (d s 0)) ∧ wz.cell? ⟨m, 1, none⟩ = some (.int .u64 (d s 1)) ∧ wz.cell? ⟨m, 2, none⟩ = some (.int .u64 (d s 2)) ∧ wz.cell? ⟨m, 3, none⟩ = some (.int .u64 (d s 3)) ∧ wz.cell? ⟨k, 0, none⟩ = some (.int .u64 (d t 0)) ∧ wz.cell? ⟨k, 1, none⟩ = some (.int .u64 (d t 1)) ∧ wz.cell? ⟨k, 2, none⟩ = some (.int .u64 (d t 2)) ∧ wz.cell? ⟨k, 3, none⟩ = some (.int .u64 (d t 3)) ∧ wz.cell? ⟨k, 4, none⟩ = some (.int .u64 (d t 4)) ∧ wz.cell? ⟨k, 5, none⟩ = some (.int .u64 (d t 5)) ∧ wz.cell? ⟨k, 6, none⟩ = some (.int .u64 (d t 6)) ∧ wz.cell? ⟨k, 7, none⟩ = some (.int .u64 (d t 7)) ∧ Law5 w x y z m s k t wz) : Law5 w x y z m s k t wz := h.2.2.2.2.2.2.2.2.2.2.2.2.2.2.2.2
theorem hold16_next {w wz wa : World} {x y z s t : Int} {m k : Nat} (h : wz.cell? ⟨w.heap.size, 0, none⟩ = some (.int .u64 (d x 0)) ∧ wz.cell? ⟨w.heap.size, 1, none⟩ = some (.int .u64 (d x 1)) ∧ wz.cell? ⟨w.heap.size, 2, none⟩ = some (.int .u64 (d x 2)) ∧ wz.cell? ⟨w.heap.size, 3, none⟩ = some (.int .u64 (d x 3)) ∧ wz.cell? ⟨m, 0, none⟩ = some (.int .u64 (d s 0)) ∧ wz.cell? ⟨m, 1, none⟩ = some (.int .u64 (d s 1)) ∧ wz.cell? ⟨m, 2, none⟩ = some (.int .u64 (d s 2)) ∧ wz.cell? ⟨m, 3, none⟩ = some (.int .u64 (d s 3)) ∧ wz.cell? ⟨k, 0, none⟩ = some (.int .u64 (d t 0)) ∧ wz.cell? ⟨k, 1, none⟩ = some (.int .u64 (d t 1)) ∧ wz.cell? ⟨k, 2, none⟩ = some (.int .u64 (d t 2)) ∧ wz.cell? ⟨k, 3, none⟩ = some (.int .u64 (d t 3)) ∧ wz.cell? ⟨k, 4, none⟩ = some (.int .u64 (d t 4)) ∧ wz.cell? ⟨k, 5, none⟩ = some (.int .u64 (d t 5)) ∧ wz.cell? ⟨k, 6, none⟩ = some (.int .u64 (d t 6)) ∧ wz.cell? ⟨k, 7, none⟩ = some (.int .u64 (d t 7)) ∧ Law5 w x y z m s k t wz) (hb : Below wz.heap.size wz wa) : wa.cell? ⟨w.heap.size, 0, none⟩ = some (.int .u64 (d x 0)) ∧ wa.cell? ⟨w.heap.size, 1, none⟩ = some (.int .u64 (d x 1)) ∧ wa.cell? ⟨w.heap.size, 2, none⟩ = some (.int .u64 (d x 2)) ∧ wa.cell? ⟨w.heap.size, 3, none⟩ = some (.int .u64 (d x 3)) ∧ wa.cell? ⟨m, 0, none⟩ = some (.int .u64 (d s 0)) ∧ wa.cell? ⟨m, 1, none⟩ = some (.int .u64 (d s 1)) ∧ wa.cell? ⟨m, 2, none⟩ = some (.int .u64 (d s 2)) ∧ wa.cell? ⟨m, 3, none⟩ = some (.int .u64 (d s 3)) ∧ wa.cell? ⟨k, 0, none⟩ = some (.int .u64 (d t 0)) ∧ wa.cell? ⟨k, 1, none⟩ = some (.int .u64 (d t 1)) ∧ wa.cell? ⟨k, 2, none⟩ = some (.int .u64 (d t 2)) ∧ wa.cell? ⟨k, 3, none⟩ = some (.int .u64 (d t 3)) ∧ wa.cell? ⟨k, 4, none⟩ = some (.int .u64 (d t 4)) ∧ wa.cell? ⟨k, 5, none⟩ = some (.int .u64 (d t 5)) ∧ wa.cell? ⟨k, 6, none⟩ = some (.int .u64 (d t 6)) ∧ wa.cell? ⟨k, 7, none⟩ = some (.int .u64 (d t 7)) ∧ Law5 w x y z m s k t wa := hold16 ((hold16_last h).next hb)
theorem law_split (x y z : Int) (hx : In 4 x) (hy : In 4 y) (hz : In 4 z) (h : geB (y + z) (pw 4) = false) :
    ∃ p q t : Int, (∀ w, Calls Try.prog 23 #[.agg #[.int .u64 (d x 0), .int .u64 (d x 1), .int .u64 (d x 2), .int .u64 (d x 3)], .agg #[.int .u64 (d y 0), .int .u64 (d y 1), .int .u64 (d y 2), .int .u64 (d y 3)]] w fun e w' => e = .returned (.agg #[.int .u64 (d p 0), .int .u64 (d p 1), .int .u64 (d p 2), .int .u64 (d p 3), .int .u64 (d p 4), .int .u64 (d p 5), .int .u64 (d p 6), .int .u64 (d p 7)]) ∧ Below w.heap.size w w') ∧
      (∀ w, Calls Try.prog 23 #[.agg #[.int .u64 (d x 0), .int .u64 (d x 1), .int .u64 (d x 2), .int .u64 (d x 3)], .agg #[.int .u64 (d z 0), .int .u64 (d z 1), .int .u64 (d z 2), .int .u64 (d z 3)]] w fun e w' => e = .returned (.agg #[.int .u64 (d q 0), .int .u64 (d q 1), .int .u64 (d q 2), .int .u64 (d q 3), .int .u64 (d q 4), .int .u64 (d q 5), .int .u64 (d q 6), .int .u64 (d q 7)]) ∧ Below w.heap.size w w') ∧
      (∀ w, Calls Try.prog 14 #[.agg #[.int .u64 (d p 0), .int .u64 (d p 1), .int .u64 (d p 2), .int .u64 (d p 3), .int .u64 (d p 4), .int .u64 (d p 5), .int .u64 (d p 6), .int .u64 (d p 7)], .agg #[.int .u64 (d q 0), .int .u64 (d q 1), .int .u64 (d q 2), .int .u64 (d q 3), .int .u64 (d q 4), .int .u64 (d q 5), .int .u64 (d q 6), .int .u64 (d q 7)]] w fun e w' => e = .returned (.tuple #[.agg #[.int .u64 (d t 0), .int .u64 (d t 1), .int .u64 (d t 2), .int .u64 (d t 3), .int .u64 (d t 4), .int .u64 (d t 5), .int .u64 (d t 6), .int .u64 (d t 7)], .bool false]) ∧ Below w.heap.size w w') ∧
      (∀ w, Calls Try.prog 23 #[.agg #[.int .u64 (d x 0), .int .u64 (d x 1), .int .u64 (d x 2), .int .u64 (d x 3)], .agg #[.int .u64 (d ((y + z) % pw 4) 0), .int .u64 (d ((y + z) % pw 4) 1), .int .u64 (d ((y + z) % pw 4) 2), .int .u64 (d ((y + z) % pw 4) 3)]] w fun e w' => e = .returned (.agg #[.int .u64 (d t 0), .int .u64 (d t 1), .int .u64 (d t 2), .int .u64 (d t 3), .int .u64 (d t 4), .int .u64 (d t 5), .int .u64 (d t 6), .int .u64 (d t 7)]) ∧ Below w.heap.size w w') := by
  have hl : y + z < pw 4 := by unfold geB at h; have := of_decide_eq_false h; omega
  have hi : In 4 (y + z) := ⟨by have := hy.1; have := hz.1; omega, hl⟩
  refine ⟨x * y, x * z, x * (y + z), fun w => mul4_any _ _ x y w rfl rfl hx hy, fun w => mul4_any _ _ x z w rfl rfl hx hz, fun w => law_spread x y z w hx hy hz hl, ?_⟩
  rw [Int.emod_eq_of_lt hi.1 hi.2]
  exact fun w => mul4_any _ _ x (y + z) w rfl rfl hx hi
theorem law_move (x z : Int) (hx : In 4 x) : ∃ n : Nat, ∃ u dn : Int, ∃ ob : Bool, (d z 0).tmod 256 = (n : Int) ∧ n < 256 ∧
      (∀ w, Calls Try.prog 29 #[.agg #[.int .u64 (d x 0), .int .u64 (d x 1), .int .u64 (d x 2), .int .u64 (d x 3)], .int .u64 (n : Int)] w fun e w' => e = .returned (.tuple #[.agg #[.int .u64 (d u 0), .int .u64 (d u 1), .int .u64 (d u 2), .int .u64 (d u 3)], .bool ob]) ∧ Below w.heap.size w w') ∧
      (∀ w, Calls Try.prog 30 #[.agg #[.int .u64 (d u 0), .int .u64 (d u 1), .int .u64 (d u 2), .int .u64 (d u 3)], .int .u64 (n : Int)] w fun e w' => e = .returned (.tuple #[.agg #[.int .u64 (d dn 0), .int .u64 (d dn 1), .int .u64 (d dn 2), .int .u64 (d dn 3)], .bool false]) ∧ Below w.heap.size w w') ∧
      (∀ w : World, (Op.equalIn 10000 24 (.agg #[.int .u64 (d dn 0), .int .u64 (d dn 1), .int .u64 (d dn 2), .int .u64 (d dn 3)]) (.agg #[.int .u64 (d x 0), .int .u64 (d x 1), .int .u64 (d x 2), .int .u64 (d x 3)])).run Try.prog w = .ok (eqB dn x) w) ∧ (eqB dn x == ob) = false := by
  have h0 : 0 ≤ d z 0 := d_lo z 0
  obtain ⟨m, hm⟩ := Int.eq_ofNat_of_zero_le h0
  have hn : (m % 256 : Nat) < 256 := Nat.mod_lt _ (by decide)
  refine ⟨m % 256, upI x (m % 256) % pw 4, dnI (upI x (m % 256) % pw 4) (m % 256), geB (upI x (m % 256)) (pw 4), ?_, hn, fun w => law_up x _ w hx hn, fun w => law_down x _ w hn, eqQ4 _ _ (dnI_in _ _ (In.mod 4 _)) hx, law_lost x _ hx⟩
  rw [hm, Int.tmod_eq_emod_of_nonneg (Int.natCast_nonneg m)]
  rfl
theorem law_last (x y : Int) (hx : In 4 x) (hy : In 4 y) : ∃ c c' b : Int, IntKind.i64.wrap (-c') = c ∧
      (∀ w, Calls Try.prog 23 #[.agg #[.int .u64 (d x 0), .int .u64 (d x 1), .int .u64 (d x 2), .int .u64 (d x 3)], .agg #[.int .u64 1, .int .u64 0, .int .u64 0, .int .u64 0]] w fun e w' => e = .returned (.agg #[.int .u64 (d x 0), .int .u64 (d x 1), .int .u64 (d x 2), .int .u64 (d x 3), .int .u64 (d x 4), .int .u64 (d x 5), .int .u64 (d x 6), .int .u64 (d x 7)]) ∧ Below w.heap.size w w') ∧
      (∀ w, Calls Try.prog 32 #[.agg #[.int .u64 (d x 0), .int .u64 (d x 1), .int .u64 (d x 2), .int .u64 (d x 3)]] w fun e w' => e = .returned (.agg #[.int .u64 (d x 0), .int .u64 (d x 1), .int .u64 (d x 2), .int .u64 (d x 3), .int .u64 (d x 4), .int .u64 (d x 5), .int .u64 (d x 6), .int .u64 (d x 7)]) ∧ Below w.heap.size w w') ∧
      (∀ w, Calls Try.prog 32 #[.agg #[.int .u64 (d y 0), .int .u64 (d y 1), .int .u64 (d y 2), .int .u64 (d y 3)]] w fun e w' => e = .returned (.agg #[.int .u64 (d y 0), .int .u64 (d y 1), .int .u64 (d y 2), .int .u64 (d y 3), .int .u64 (d y 4), .int .u64 (d y 5), .int .u64 (d y 6), .int .u64 (d y 7)]) ∧ Below w.heap.size w w') ∧
      (∀ w, Calls Try.prog 16 #[.agg #[.int .u64 (d x 0), .int .u64 (d x 1), .int .u64 (d x 2), .int .u64 (d x 3)], .agg #[.int .u64 (d y 0), .int .u64 (d y 1), .int .u64 (d y 2), .int .u64 (d y 3)]] w fun e w' => e = .returned (.int .i64 c) ∧ Below w.heap.size w w') ∧
      (∀ w, Calls Try.prog 16 #[.agg #[.int .u64 (d y 0), .int .u64 (d y 1), .int .u64 (d y 2), .int .u64 (d y 3)], .agg #[.int .u64 (d x 0), .int .u64 (d x 1), .int .u64 (d x 2), .int .u64 (d x 3)]] w fun e w' => e = .returned (.int .i64 c') ∧ Below w.heap.size w w') ∧
      (∀ w, Calls Try.prog 18 #[.agg #[.int .u64 (d x 0), .int .u64 (d x 1), .int .u64 (d x 2), .int .u64 (d x 3), .int .u64 (d x 4), .int .u64 (d x 5), .int .u64 (d x 6), .int .u64 (d x 7)], .agg #[.int .u64 (d y 0), .int .u64 (d y 1), .int .u64 (d y 2), .int .u64 (d y 3), .int .u64 (d y 4), .int .u64 (d y 5), .int .u64 (d y 6), .int .u64 (d y 7)]] w fun e w' => e = .returned (.int .i64 c) ∧ Below w.heap.size w w') ∧
      (∀ w, Calls Try.prog 21 #[.agg #[.int .u64 (d x 0), .int .u64 (d x 1), .int .u64 (d x 2), .int .u64 (d x 3), .int .u64 (d x 4), .int .u64 (d x 5), .int .u64 (d x 6), .int .u64 (d x 7)]] w fun e w' => e = .returned (.int .i64 b) ∧ Below w.heap.size w w') ∧
      (∀ w, Calls Try.prog 19 #[.agg #[.int .u64 (d x 0), .int .u64 (d x 1), .int .u64 (d x 2), .int .u64 (d x 3)]] w fun e w' => e = .returned (.int .i64 b) ∧ Below w.heap.size w w') := by
  have h8 : ∀ v : Int, In 4 v → In 8 v := fun v h => ⟨h.1, Int.lt_trans h.2 (by decide +kernel)⟩
  refine ⟨cmpI x y, cmpI y x, bl x, ?_, fun w => ?_, fun w => twice_any x w hx, fun w => twice_any y w hy, fun w => cmp4_any _ _ x y w rfl rfl hx hy, fun w => cmp4_any _ _ y x w rfl rfl hy hx,
    fun w => cmp8_any _ _ x y w rfl rfl (h8 x hx) (h8 y hy), fun w => bitLen8_any _ x w rfl (h8 x hx), fun w => bitLen4_any _ x w rfl hx⟩
  · rcases Int.lt_trichotomy x y with h | h | h
    · rw [cmpI_lt h, cmpI_gt h]; rfl
    · subst h; rw [cmpI_eq]; rfl
    · rw [cmpI_gt h, cmpI_lt h]; rfl
  · have k := mul4_any _ _ x 1 w rfl rfl hx one_in4
    rwa [Q4_one, Int.mul_one] at k
theorem rows3 (w : World) (A B C : Array Value) (T1 T2 T3 : TypeId) :
    (((w.alloc (.cells A T1)).alloc (.cells B T2)).alloc (.cells C T3)).heap[w.heap.size]? = some (.cells A T1 (0, 0)) ∧ (((w.alloc (.cells A T1)).alloc (.cells B T2)).alloc (.cells C T3)).heap[w.heap.size + 1]? = some (.cells B T2 (0, 0)) ∧
    (((w.alloc (.cells A T1)).alloc (.cells B T2)).alloc (.cells C T3)).heap[w.heap.size + 1 + 1]? = some (.cells C T3 (0, 0)) := by
  refine ⟨arow_alloc _ (arow_alloc _ (arow_new _ _ _)), arow_alloc _ ?_, ?_⟩
  · have := arow_new (w.alloc (.cells A T1)) B T2
    rwa [World.size_alloc] at this
  · have := arow_new ((w.alloc (.cells A T1)).alloc (.cells B T2)) C T3
    rwa [World.size_alloc, World.size_alloc] at this

set_option maxRecDepth 100000 in
set_option maxHeartbeats 4000000 in
theorem agrees_any (x y z : Int) (w : World) (hx : In 4 x) (hy : In 4 y) (hz : In 4 z) :
    Calls Try.prog 6 #[.agg #[.int .u64 (d x 0), .int .u64 (d x 1), .int .u64 (d x 2), .int .u64 (d x 3)], .agg #[.int .u64 (d y 0), .int .u64 (d y 1), .int .u64 (d y 2), .int .u64 (d y 3)], .agg #[.int .u64 (d z 0), .int .u64 (d z 1), .int .u64 (d z 2), .int .u64 (d z 3)]] w fun e w' => e = .returned (.bool true) ∧ Below w.heap.size w w' := by
  have HX := Lib.hid hx
  have HY := Lib.hid hy
  have HZ := Lib.hid hz
  obtain ⟨c, hc, hcw⟩ := law_cmp x y hx hy
  have HC := Lib.hid hcw
  obtain ⟨q, r, bz, hbz, hdiv⟩ := law_div x y hx hy
  have HD := Lib.hid hdiv
  have HBZ := Lib.hid hbz
  clear hdiv hbz
  have HA := Lib.hid (fun w => law_add x y w hx hy)
  have HS := Lib.hid (fun w => law_sub x y w hx hy)
  clear hx hy hz hcw
  obtain ⟨ov, hov⟩ : ∃ ov, geB (x + y) (pw 4) = ov := ⟨_, rfl⟩
  rw [hov] at HA HS hc
  have HO := Lib.hid hov
  clear hov
  obtain ⟨s, hs⟩ : ∃ s, (x + y) % pw 4 = s := ⟨_, rfl⟩
  rw [hs] at HA HS HC
  have HSS := Lib.hid hs
  clear hs
  have HCC := Lib.hid hc
  clear hc
  go_enter Try.func6, Try.ntmps6
  try simp only [List.append_eq, List.cons_append, List.nil_append]
  go_wp2_with fail
  obtain ⟨r3, r4, r5⟩ := rows3 w #[.int .u64 (d x 0), .int .u64 (d x 1), .int .u64 (d x 2), .int .u64 (d x 3)] #[.int .u64 (d y 0), .int .u64 (d y 1), .int .u64 (d y 2), .int .u64 (d y 3)] #[.int .u64 (d z 0), .int .u64 (d z 1), .int .u64 (d z 2), .int .u64 (d z 3)] 24 24 24
  have r3 := Lib.hid r3
  have r4 := Lib.hid r4
  have r5 := Lib.hid r5
  have b0 := below3' w (.cells #[.int .u64 (d x 0), .int .u64 (d x 1), .int .u64 (d x 2), .int .u64 (d x 3)] 24) (.cells #[.int .u64 (d y 0), .int .u64 (d y 1), .int .u64 (d y 2), .int .u64 (d y 3)] 24) (.cells #[.int .u64 (d z 0), .int .u64 (d z 1), .int .u64 (d z 2), .int .u64 (d z 3)] 24)
  generalize (((w.alloc (.cells #[.int .u64 (d x 0), .int .u64 (d x 1), .int .u64 (d x 2), .int .u64 (d x 3)] 24)).alloc (.cells #[.int .u64 (d y 0), .int .u64 (d y 1), .int .u64 (d y 2), .int .u64 (d y 3)] 24)).alloc (.cells #[.int .u64 (d z 0), .int .u64 (d z 1), .int .u64 (d z 2), .int .u64 (d z 3)] 24)) = v0 at *
  refine (works_any _).mono ?_
  rintro e w1 ⟨rfl, h1⟩
  have r3 := Lib.hid (arow_below r3.out h1 (arow_lt r3.out))
  have r4 := Lib.hid (arow_below r4.out h1 (arow_lt r4.out))
  have r5 := Lib.hid (arow_below r5.out h1 (arow_lt r5.out))
  have b1 := b0.trans (h1.mono b0.size)
  clear h1
  have c3_0 := (arow_cell r3.out 0).trans rfl
  have c3_1 := (arow_cell r3.out 1).trans rfl
  have c3_2 := (arow_cell r3.out 2).trans rfl
  have c3_3 := (arow_cell r3.out 3).trans rfl
  have l3 := arow_lt r3.out
  have c4_0 := (arow_cell r4.out 0).trans rfl
  have c4_1 := (arow_cell r4.out 1).trans rfl
  have c4_2 := (arow_cell r4.out 2).trans rfl
  have c4_3 := (arow_cell r4.out 3).trans rfl
  have l4 := arow_lt r4.out
  go_wp2_with fail
  clear c3_0 c3_1 c3_2 c3_3 l3 c4_0 c4_1 c4_2 c4_3 l4
  refine (HA.out _).mono ?_
  rintro e w2 ⟨rfl, h2⟩
  have r3 := Lib.hid (arow_below r3.out h2 (arow_lt r3.out))
  have r4 := Lib.hid (arow_below r4.out h2 (arow_lt r4.out))
  have r5 := Lib.hid (arow_below r5.out h2 (arow_lt r5.out))
  have b2 := b1.trans (h2.mono b1.size)
  clear h2
  have c4_0 := (arow_cell r4.out 0).trans rfl
  have c4_1 := (arow_cell r4.out 1).trans rfl
  have c4_2 := (arow_cell r4.out 2).trans rfl
  have c4_3 := (arow_cell r4.out 3).trans rfl
  have l4 := arow_lt r4.out
  go_wp2_with fail
  clear c4_0 c4_1 c4_2 c4_3 l4
  have r3 := Lib.hid (arow_alloc (.cells #[.int .u64 (d s 0), .int .u64 (d s 1), .int .u64 (d s 2), .int .u64 (d s 3)] 24) r3.out)
  have r4 := Lib.hid (arow_alloc (.cells #[.int .u64 (d s 0), .int .u64 (d s 1), .int .u64 (d s 2), .int .u64 (d s 3)] 24) r4.out)
  have r5 := Lib.hid (arow_alloc (.cells #[.int .u64 (d s 0), .int .u64 (d s 1), .int .u64 (d s 2), .int .u64 (d s 3)] 24) r5.out)
  have r7 := Lib.hid (arow_new w2 #[.int .u64 (d s 0), .int .u64 (d s 1), .int .u64 (d s 2), .int .u64 (d s 3)] 24)
  have b2 := b2.alloc b2.size (.cells #[.int .u64 (d s 0), .int .u64 (d s 1), .int .u64 (d s 2), .int .u64 (d s 3)] 24)
  generalize (w2.alloc (.cells #[.int .u64 (d s 0), .int .u64 (d s 1), .int .u64 (d s 2), .int .u64 (d s 3)] 24)) = v2 at *
  generalize w2.heap.size = n7 at *
  have e4 := eqlimbs4
  refine (HS.out _).mono ?_
  rintro e w3 ⟨rfl, h3⟩
  have r3 := Lib.hid (arow_below r3.out h3 (arow_lt r3.out))
  have r4 := Lib.hid (arow_below r4.out h3 (arow_lt r4.out))
  have r5 := Lib.hid (arow_below r5.out h3 (arow_lt r5.out))
  have r7 := Lib.hid (arow_below r7.out h3 (arow_lt r7.out))
  have b3 := b2.trans (h3.mono b2.size)
  clear h3
  have c3_0 := (arow_cell r3.out 0).trans rfl
  have c3_1 := (arow_cell r3.out 1).trans rfl
  have c3_2 := (arow_cell r3.out 2).trans rfl
  have c3_3 := (arow_cell r3.out 3).trans rfl
  have l3 := arow_lt r3.out
  have c7_0 := (arow_cell r7.out 0).trans rfl
  have c7_1 := (arow_cell r7.out 1).trans rfl
  have c7_2 := (arow_cell r7.out 2).trans rfl
  have c7_3 := (arow_cell r7.out 3).trans rfl
  have l7 := arow_lt r7.out
  go_wp2_with fail
  clear c3_0 c3_1 c3_2 c3_3 l3 c7_0 c7_1 c7_2 c7_3 l7
  have r3 := Lib.hid (arow_alloc (.cells #[.int .u64 (d x 0), .int .u64 (d x 1), .int .u64 (d x 2), .int .u64 (d x 3)] 24) r3.out)
  have r4 := Lib.hid (arow_alloc (.cells #[.int .u64 (d x 0), .int .u64 (d x 1), .int .u64 (d x 2), .int .u64 (d x 3)] 24) r4.out)
  have r5 := Lib.hid (arow_alloc (.cells #[.int .u64 (d x 0), .int .u64 (d x 1), .int .u64 (d x 2), .int .u64 (d x 3)] 24) r5.out)
  have r7 := Lib.hid (arow_alloc (.cells #[.int .u64 (d x 0), .int .u64 (d x 1), .int .u64 (d x 2), .int .u64 (d x 3)] 24) r7.out)
  have r9 := Lib.hid (arow_new w3 #[.int .u64 (d x 0), .int .u64 (d x 1), .int .u64 (d x 2), .int .u64 (d x 3)] 24)
  have b3 := b3.alloc b3.size (.cells #[.int .u64 (d x 0), .int .u64 (d x 1), .int .u64 (d x 2), .int .u64 (d x 3)] 24)
  generalize (w3.alloc (.cells #[.int .u64 (d x 0), .int .u64 (d x 1), .int .u64 (d x 2), .int .u64 (d x 3)] 24)) = v3 at *
  generalize w3.heap.size = n9 at *
  have hcc := HCC.out
  refine (HC.out _).mono ?_
  rintro e w4 ⟨rfl, h4⟩
  have r3 := Lib.hid (arow_below r3.out h4 (arow_lt r3.out))
  have r4 := Lib.hid (arow_below r4.out h4 (arow_lt r4.out))
  have r5 := Lib.hid (arow_below r5.out h4 (arow_lt r5.out))
  have r7 := Lib.hid (arow_below r7.out h4 (arow_lt r7.out))
  have r9 := Lib.hid (arow_below r9.out h4 (arow_lt r9.out))
  have b4 := b3.trans (h4.mono b3.size)
  clear h4
  have c3_0 := (arow_cell r3.out 0).trans rfl
  have c3_1 := (arow_cell r3.out 1).trans rfl
  have c3_2 := (arow_cell r3.out 2).trans rfl
  have c3_3 := (arow_cell r3.out 3).trans rfl
  have l3 := arow_lt r3.out
  have c4_0 := (arow_cell r4.out 0).trans rfl
  have c4_1 := (arow_cell r4.out 1).trans rfl
  have c4_2 := (arow_cell r4.out 2).trans rfl
  have c4_3 := (arow_cell r4.out 3).trans rfl
  have l4 := arow_lt r4.out
  go_wp2_with fail
  clear c3_0 c3_1 c3_2 c3_3 l3 c4_0 c4_1 c4_2 c4_3 l4
  clear e4 hcc HC HCC HA HS
  refine (HD.out _).mono ?_
  rintro e w5 ⟨rfl, h5⟩
  have r3 := Lib.hid (arow_below r3.out h5 (arow_lt r3.out))
  have r4 := Lib.hid (arow_below r4.out h5 (arow_lt r4.out))
  have r5 := Lib.hid (arow_below r5.out h5 (arow_lt r5.out))
  have r7 := Lib.hid (arow_below r7.out h5 (arow_lt r7.out))
  have r9 := Lib.hid (arow_below r9.out h5 (arow_lt r9.out))
  have b5 := b4.trans (h5.mono b4.size)
  clear h5
  clear HD
  go_upto_if 65 with (fail)
  have r3 := Lib.hid (arow_alloc (.cells #[.int .u64 (d q 0), .int .u64 (d q 1), .int .u64 (d q 2), .int .u64 (d q 3)] 24) r3.out)
  have r4 := Lib.hid (arow_alloc (.cells #[.int .u64 (d q 0), .int .u64 (d q 1), .int .u64 (d q 2), .int .u64 (d q 3)] 24) r4.out)
  have r5 := Lib.hid (arow_alloc (.cells #[.int .u64 (d q 0), .int .u64 (d q 1), .int .u64 (d q 2), .int .u64 (d q 3)] 24) r5.out)
  have r7 := Lib.hid (arow_alloc (.cells #[.int .u64 (d q 0), .int .u64 (d q 1), .int .u64 (d q 2), .int .u64 (d q 3)] 24) r7.out)
  have r9 := Lib.hid (arow_alloc (.cells #[.int .u64 (d q 0), .int .u64 (d q 1), .int .u64 (d q 2), .int .u64 (d q 3)] 24) r9.out)
  have r11 := Lib.hid (arow_new w5 #[.int .u64 (d q 0), .int .u64 (d q 1), .int .u64 (d q 2), .int .u64 (d q 3)] 24)
  have b5 := b5.alloc b5.size (.cells #[.int .u64 (d q 0), .int .u64 (d q 1), .int .u64 (d q 2), .int .u64 (d q 3)] 24)
  have r3 := Lib.hid (arow_alloc (.cells #[.int .u64 (d r 0), .int .u64 (d r 1), .int .u64 (d r 2), .int .u64 (d r 3)] 24) r3.out)
  have r4 := Lib.hid (arow_alloc (.cells #[.int .u64 (d r 0), .int .u64 (d r 1), .int .u64 (d r 2), .int .u64 (d r 3)] 24) r4.out)
  have r5 := Lib.hid (arow_alloc (.cells #[.int .u64 (d r 0), .int .u64 (d r 1), .int .u64 (d r 2), .int .u64 (d r 3)] 24) r5.out)
  have r7 := Lib.hid (arow_alloc (.cells #[.int .u64 (d r 0), .int .u64 (d r 1), .int .u64 (d r 2), .int .u64 (d r 3)] 24) r7.out)
  have r9 := Lib.hid (arow_alloc (.cells #[.int .u64 (d r 0), .int .u64 (d r 1), .int .u64 (d r 2), .int .u64 (d r 3)] 24) r9.out)
  have r11 := Lib.hid (arow_alloc (.cells #[.int .u64 (d r 0), .int .u64 (d r 1), .int .u64 (d r 2), .int .u64 (d r 3)] 24) r11.out)
  have r12 := Lib.hid (arow_new (w5.alloc (.cells #[.int .u64 (d q 0), .int .u64 (d q 1), .int .u64 (d q 2), .int .u64 (d q 3)] 24)) #[.int .u64 (d r 0), .int .u64 (d r 1), .int .u64 (d r 2), .int .u64 (d r 3)] 24)
  have b5 := b5.alloc b5.size (.cells #[.int .u64 (d r 0), .int .u64 (d r 1), .int .u64 (d r 2), .int .u64 (d r 3)] 24)
  rw [World.size_alloc] at r12
  generalize ((w5.alloc (.cells #[.int .u64 (d q 0), .int .u64 (d q 1), .int .u64 (d q 2), .int .u64 (d q 3)] 24)).alloc (.cells #[.int .u64 (d r 0), .int .u64 (d r 1), .int .u64 (d r 2), .int .u64 (d r 3)] 24)) = v5 at *
  generalize w5.heap.size = n11 at *
  have HL := Lib.hid (Law3.mk r3.out r4.out r5.out b5 : Law3 w x y z v5)
  go_cut [] from 14 (fun wx => Law3 w x y z wx)
  case first =>
    cases bz
    · obtain ⟨p, hm, hl, hb, hr⟩ := law_quot x y q r HX.out HY.out (HBZ.out rfl)
      have HM := Lib.hid hm
      have HLW := Lib.hid hl
      have HB := Lib.hid hb
      have HR := Lib.hid hr
      clear hm hl hb hr HBZ
      have c11_0 := (arow_cell r11.out 0).trans rfl
      have c11_1 := (arow_cell r11.out 1).trans rfl
      have c11_2 := (arow_cell r11.out 2).trans rfl
      have c11_3 := (arow_cell r11.out 3).trans rfl
      have l11 := arow_lt r11.out
      have c4_0 := (arow_cell r4.out 0).trans rfl
      have c4_1 := (arow_cell r4.out 1).trans rfl
      have c4_2 := (arow_cell r4.out 2).trans rfl
      have c4_3 := (arow_cell r4.out 3).trans rfl
      have l4 := arow_lt r4.out
      go_wp2_with fail
      clear c11_0 c11_1 c11_2 c11_3 l11 c4_0 c4_1 c4_2 c4_3 l4
      refine (HM.out _).mono ?_
      rintro e w6 ⟨rfl, h6⟩
      have r3 := Lib.hid (arow_below r3.out h6 (arow_lt r3.out))
      have r4 := Lib.hid (arow_below r4.out h6 (arow_lt r4.out))
      have r5 := Lib.hid (arow_below r5.out h6 (arow_lt r5.out))
      have r7 := Lib.hid (arow_below r7.out h6 (arow_lt r7.out))
      have r9 := Lib.hid (arow_below r9.out h6 (arow_lt r9.out))
      have r11 := Lib.hid (arow_below r11.out h6 (arow_lt r11.out))
      have r12 := Lib.hid (arow_below r12.out h6 (arow_lt r12.out))
      have b6 := b5.trans (h6.mono b5.size)
      clear h6
      go_wp2_with fail
      refine (HLW.out _).mono ?_
      rintro e w7 ⟨rfl, h7⟩
      have r3 := Lib.hid (arow_below r3.out h7 (arow_lt r3.out))
      have r4 := Lib.hid (arow_below r4.out h7 (arow_lt r4.out))
      have r5 := Lib.hid (arow_below r5.out h7 (arow_lt r5.out))
      have r7 := Lib.hid (arow_below r7.out h7 (arow_lt r7.out))
      have r9 := Lib.hid (arow_below r9.out h7 (arow_lt r9.out))
      have r11 := Lib.hid (arow_below r11.out h7 (arow_lt r11.out))
      have r12 := Lib.hid (arow_below r12.out h7 (arow_lt r12.out))
      have b7 := b6.trans (h7.mono b6.size)
      clear h7
      have c12_0 := (arow_cell r12.out 0).trans rfl
      have c12_1 := (arow_cell r12.out 1).trans rfl
      have c12_2 := (arow_cell r12.out 2).trans rfl
      have c12_3 := (arow_cell r12.out 3).trans rfl
      have l12 := arow_lt r12.out
      go_wp2_with fail
      clear c12_0 c12_1 c12_2 c12_3 l12
      have r3 := Lib.hid (arow_alloc (.cells #[.int .u64 (d p 0), .int .u64 (d p 1), .int .u64 (d p 2), .int .u64 (d p 3)] 24) r3.out)
      have r4 := Lib.hid (arow_alloc (.cells #[.int .u64 (d p 0), .int .u64 (d p 1), .int .u64 (d p 2), .int .u64 (d p 3)] 24) r4.out)
      have r5 := Lib.hid (arow_alloc (.cells #[.int .u64 (d p 0), .int .u64 (d p 1), .int .u64 (d p 2), .int .u64 (d p 3)] 24) r5.out)
      have r7 := Lib.hid (arow_alloc (.cells #[.int .u64 (d p 0), .int .u64 (d p 1), .int .u64 (d p 2), .int .u64 (d p 3)] 24) r7.out)
      have r9 := Lib.hid (arow_alloc (.cells #[.int .u64 (d p 0), .int .u64 (d p 1), .int .u64 (d p 2), .int .u64 (d p 3)] 24) r9.out)
      have r11 := Lib.hid (arow_alloc (.cells #[.int .u64 (d p 0), .int .u64 (d p 1), .int .u64 (d p 2), .int .u64 (d p 3)] 24) r11.out)
      have r12 := Lib.hid (arow_alloc (.cells #[.int .u64 (d p 0), .int .u64 (d p 1), .int .u64 (d p 2), .int .u64 (d p 3)] 24) r12.out)
      have r14 := Lib.hid (arow_new w7 #[.int .u64 (d p 0), .int .u64 (d p 1), .int .u64 (d p 2), .int .u64 (d p 3)] 24)
      have b7 := b7.alloc b7.size (.cells #[.int .u64 (d p 0), .int .u64 (d p 1), .int .u64 (d p 2), .int .u64 (d p 3)] 24)
      generalize (w7.alloc (.cells #[.int .u64 (d p 0), .int .u64 (d p 1), .int .u64 (d p 2), .int .u64 (d p 3)] 24)) = v7 at *
      generalize w7.heap.size = n14 at *
      have e4 := eqlimbs4
      refine (HB.out _).mono ?_
      rintro e w8 ⟨rfl, h8⟩
      have r3 := Lib.hid (arow_below r3.out h8 (arow_lt r3.out))
      have r4 := Lib.hid (arow_below r4.out h8 (arow_lt r4.out))
      have r5 := Lib.hid (arow_below r5.out h8 (arow_lt r5.out))
      have r7 := Lib.hid (arow_below r7.out h8 (arow_lt r7.out))
      have r9 := Lib.hid (arow_below r9.out h8 (arow_lt r9.out))
      have r11 := Lib.hid (arow_below r11.out h8 (arow_lt r11.out))
      have r12 := Lib.hid (arow_below r12.out h8 (arow_lt r12.out))
      have r14 := Lib.hid (arow_below r14.out h8 (arow_lt r14.out))
      have b8 := b7.trans (h8.mono b7.size)
      clear h8
      have c3_0 := (arow_cell r3.out 0).trans rfl
      have c3_1 := (arow_cell r3.out 1).trans rfl
      have c3_2 := (arow_cell r3.out 2).trans rfl
      have c3_3 := (arow_cell r3.out 3).trans rfl
      have l3 := arow_lt r3.out
      have c12_0 := (arow_cell r12.out 0).trans rfl
      have c12_1 := (arow_cell r12.out 1).trans rfl
      have c12_2 := (arow_cell r12.out 2).trans rfl
      have c12_3 := (arow_cell r12.out 3).trans rfl
      have l12 := arow_lt r12.out
      have c4_0 := (arow_cell r4.out 0).trans rfl
      have c4_1 := (arow_cell r4.out 1).trans rfl
      have c4_2 := (arow_cell r4.out 2).trans rfl
      have c4_3 := (arow_cell r4.out 3).trans rfl
      have l4 := arow_lt r4.out
      go_wp2_with fail
      clear c3_0 c3_1 c3_2 c3_3 l3 c12_0 c12_1 c12_2 c12_3 l12 c4_0 c4_1 c4_2 c4_3 l4
      have r3 := Lib.hid (arow_alloc (.cells #[.int .u64 (d x 0), .int .u64 (d x 1), .int .u64 (d x 2), .int .u64 (d x 3)] 24) r3.out)
      have r4 := Lib.hid (arow_alloc (.cells #[.int .u64 (d x 0), .int .u64 (d x 1), .int .u64 (d x 2), .int .u64 (d x 3)] 24) r4.out)
      have r5 := Lib.hid (arow_alloc (.cells #[.int .u64 (d x 0), .int .u64 (d x 1), .int .u64 (d x 2), .int .u64 (d x 3)] 24) r5.out)
      have r7 := Lib.hid (arow_alloc (.cells #[.int .u64 (d x 0), .int .u64 (d x 1), .int .u64 (d x 2), .int .u64 (d x 3)] 24) r7.out)
      have r9 := Lib.hid (arow_alloc (.cells #[.int .u64 (d x 0), .int .u64 (d x 1), .int .u64 (d x 2), .int .u64 (d x 3)] 24) r9.out)
      have r11 := Lib.hid (arow_alloc (.cells #[.int .u64 (d x 0), .int .u64 (d x 1), .int .u64 (d x 2), .int .u64 (d x 3)] 24) r11.out)
      have r12 := Lib.hid (arow_alloc (.cells #[.int .u64 (d x 0), .int .u64 (d x 1), .int .u64 (d x 2), .int .u64 (d x 3)] 24) r12.out)
      have r14 := Lib.hid (arow_alloc (.cells #[.int .u64 (d x 0), .int .u64 (d x 1), .int .u64 (d x 2), .int .u64 (d x 3)] 24) r14.out)
      have r16 := Lib.hid (arow_new w8 #[.int .u64 (d x 0), .int .u64 (d x 1), .int .u64 (d x 2), .int .u64 (d x 3)] 24)
      have b8 := b8.alloc b8.size (.cells #[.int .u64 (d x 0), .int .u64 (d x 1), .int .u64 (d x 2), .int .u64 (d x 3)] 24)
      generalize (w8.alloc (.cells #[.int .u64 (d x 0), .int .u64 (d x 1), .int .u64 (d x 2), .int .u64 (d x 3)] 24)) = v8 at *
      generalize w8.heap.size = n16 at *
      clear e4
      refine (HR.out _).mono ?_
      rintro e w9 ⟨rfl, h9⟩
      have r3 := Lib.hid (arow_below r3.out h9 (arow_lt r3.out))
      have r4 := Lib.hid (arow_below r4.out h9 (arow_lt r4.out))
      have r5 := Lib.hid (arow_below r5.out h9 (arow_lt r5.out))
      have r7 := Lib.hid (arow_below r7.out h9 (arow_lt r7.out))
      have r9 := Lib.hid (arow_below r9.out h9 (arow_lt r9.out))
      have r11 := Lib.hid (arow_below r11.out h9 (arow_lt r11.out))
      have r12 := Lib.hid (arow_below r12.out h9 (arow_lt r12.out))
      have r14 := Lib.hid (arow_below r14.out h9 (arow_lt r14.out))
      have r16 := Lib.hid (arow_below r16.out h9 (arow_lt r16.out))
      have b9 := b8.trans (h9.mono b8.size)
      clear h9
      go_wp2_with fail
      go_meet
      case rel => exact Law3.mk r3.out r4.out r5.out b9
    · go_wp2_with fail
      go_meet
      case rel => exact HL.out
  case rest =>
  have HXY := Lib.hid (fun w => mul4_any _ _ x y w rfl rfl HX.out HY.out)
  have HYX := Lib.hid (fun w => mul4_any _ _ y x w rfl rfl HY.out HX.out)
  rw [Int.mul_comm y x] at HYX
  obtain ⟨p, hp⟩ : ∃ p, x * y = p := ⟨_, rfl⟩
  rw [hp] at HXY HYX
  have HP := Lib.hid hp
  have HL := Lib.hid hcut
  have hS := hold8 hcut
  clear hp hcut r3 r4 r5 r7 r9 r11 r12 HBZ
  go_upto_region 13 with (fail)
  have e8 := eqself8
  go_cut [100] from 94 (fun s100 wx => s100 = .bool false ∧ Law3 w x y z wx)
  case first =>
    go_region_held3 (fun w' => w'.cell? ⟨w.heap.size, 0, none⟩ = some (.int .u64 (d x 0)) ∧ w'.cell? ⟨w.heap.size, 1, none⟩ = some (.int .u64 (d x 1)) ∧ w'.cell? ⟨w.heap.size, 2, none⟩ = some (.int .u64 (d x 2)) ∧ w'.cell? ⟨w.heap.size, 3, none⟩ = some (.int .u64 (d x 3)) ∧ w'.cell? ⟨w.heap.size + 1, 0, none⟩ = some (.int .u64 (d y 0)) ∧ w'.cell? ⟨w.heap.size + 1, 1, none⟩ = some (.int .u64 (d y 1)) ∧ w'.cell? ⟨w.heap.size + 1, 2, none⟩ = some (.int .u64 (d y 2)) ∧ w'.cell? ⟨w.heap.size + 1, 3, none⟩ = some (.int .u64 (d y 3)) ∧ Law3 w x y z w')
      (first | (with_reducible assumption) | (with_reducible exact hold8 HL.out) | (with_reducible exact hold8 HL.out.drew))
      (first
        | (go_at_call 23; with_reducible refine (HXY.out _).mono ?_; rintro e wa ⟨rfl, hb1⟩; have hSa := hold8_next (by with_reducible assumption) hb1)
        | (go_at_call 23; with_reducible refine (HYX.out _).mono ?_; rintro e wb ⟨rfl, hb2⟩; have hSb := hold8_next (by with_reducible assumption) hb2))
    all_goals
      go_wp2_with fail
      go_meet
      case rel => exact ⟨rfl, by first | exact hold8_last hSb | exact hold8_last hSa⟩
  case rest =>
  obtain ⟨rfl, hL⟩ := hcut
  have HA2 := Lib.hid (fun w => law_add y z w HY.out HZ.out)
  have HSP := Lib.hid (law_split x y z HX.out HY.out HZ.out)
  obtain ⟨o2, ho2⟩ : ∃ o2, geB (y + z) (pw 4) = o2 := ⟨_, rfl⟩
  rw [ho2] at HA2 HSP
  obtain ⟨s2, hs2⟩ : ∃ s2, (y + z) % pw 4 = s2 := ⟨_, rfl⟩
  rw [hs2] at HA2 HSP
  clear ho2 hs2 HXY HYX HP HL hS
  have r3 := Lib.hid hL.ha
  have r4 := Lib.hid hL.hb
  have r5 := Lib.hid hL.hc
  have b10 := hL.hw
  clear hL e8
  have c4_0 := (arow_cell r4.out 0).trans rfl
  have c4_1 := (arow_cell r4.out 1).trans rfl
  have c4_2 := (arow_cell r4.out 2).trans rfl
  have c4_3 := (arow_cell r4.out 3).trans rfl
  have l4 := arow_lt r4.out
  have c5_0 := (arow_cell r5.out 0).trans rfl
  have c5_1 := (arow_cell r5.out 1).trans rfl
  have c5_2 := (arow_cell r5.out 2).trans rfl
  have c5_3 := (arow_cell r5.out 3).trans rfl
  have l5 := arow_lt r5.out
  go_wp2_with fail
  clear c4_0 c4_1 c4_2 c4_3 l4 c5_0 c5_1 c5_2 c5_3 l5
  refine (HA2.out _).mono ?_
  rintro e w11 ⟨rfl, h11⟩
  have r3 := Lib.hid (arow_below r3.out h11 (arow_lt r3.out))
  have r4 := Lib.hid (arow_below r4.out h11 (arow_lt r4.out))
  have r5 := Lib.hid (arow_below r5.out h11 (arow_lt r5.out))
  have b11 := b10.trans (h11.mono b10.size)
  clear h11
  go_upto_if 108 with (fail)
  have r3 := Lib.hid (arow_alloc (.cells #[.int .u64 (d s2 0), .int .u64 (d s2 1), .int .u64 (d s2 2), .int .u64 (d s2 3)] 24) r3.out)
  have r4 := Lib.hid (arow_alloc (.cells #[.int .u64 (d s2 0), .int .u64 (d s2 1), .int .u64 (d s2 2), .int .u64 (d s2 3)] 24) r4.out)
  have r5 := Lib.hid (arow_alloc (.cells #[.int .u64 (d s2 0), .int .u64 (d s2 1), .int .u64 (d s2 2), .int .u64 (d s2 3)] 24) r5.out)
  have r18 := Lib.hid (arow_new w11 #[.int .u64 (d s2 0), .int .u64 (d s2 1), .int .u64 (d s2 2), .int .u64 (d s2 3)] 24)
  have b11 := b11.alloc b11.size (.cells #[.int .u64 (d s2 0), .int .u64 (d s2 1), .int .u64 (d s2 2), .int .u64 (d s2 3)] 24)
  generalize (w11.alloc (.cells #[.int .u64 (d s2 0), .int .u64 (d s2 1), .int .u64 (d s2 2), .int .u64 (d s2 3)] 24)) = v11 at *
  generalize w11.heap.size = n18 at *
  have HL3 := Lib.hid (Law3.mk r3.out r4.out r5.out b11 : Law3 w x y z v11)
  have HL4 := Lib.hid (Law4.mk HL3.out r18.out)
  clear r3 r4 r5 r18 b11 HA2
  go_cut [] from 18 (fun wx => Law3 w x y z wx)
  case first =>
    cases o2
    · obtain ⟨p, q', t, h1, h2, h3, h4⟩ := HSP.out rfl
      have H1 := Lib.hid h1
      have H2 := Lib.hid h2
      have H3 := Lib.hid h3
      have H4 := Lib.hid h4
      clear h1 h2 h3 h4 HSP
      have hS := hold12 HL4.out
      go_upto_region 17 with (fail)
      go_cut [20, 21] from 109 (fun s20 s21 wx => ∃ M : Nat, s20 = .pointer (some ⟨M, 0, none⟩) ∧ s21 = .bool false ∧ Law5 w x y z n18 s2 M t wx)
      case first =>
        go_region_held3 (fun w' => w'.cell? ⟨w.heap.size, 0, none⟩ = some (.int .u64 (d x 0)) ∧ w'.cell? ⟨w.heap.size, 1, none⟩ = some (.int .u64 (d x 1)) ∧ w'.cell? ⟨w.heap.size, 2, none⟩ = some (.int .u64 (d x 2)) ∧ w'.cell? ⟨w.heap.size, 3, none⟩ = some (.int .u64 (d x 3)) ∧ w'.cell? ⟨w.heap.size + 1, 0, none⟩ = some (.int .u64 (d y 0)) ∧ w'.cell? ⟨w.heap.size + 1, 1, none⟩ = some (.int .u64 (d y 1)) ∧ w'.cell? ⟨w.heap.size + 1, 2, none⟩ = some (.int .u64 (d y 2)) ∧ w'.cell? ⟨w.heap.size + 1, 3, none⟩ = some (.int .u64 (d y 3)) ∧ w'.cell? ⟨w.heap.size + 1 + 1, 0, none⟩ = some (.int .u64 (d z 0)) ∧ w'.cell? ⟨w.heap.size + 1 + 1, 1, none⟩ = some (.int .u64 (d z 1)) ∧ w'.cell? ⟨w.heap.size + 1 + 1, 2, none⟩ = some (.int .u64 (d z 2)) ∧ w'.cell? ⟨w.heap.size + 1 + 1, 3, none⟩ = some (.int .u64 (d z 3)) ∧ w.heap.size + 1 + 1 < w'.heap.size ∧ n18 < w'.heap.size ∧ Law4 w x y z n18 s2 w')
          (first | (with_reducible assumption) | (with_reducible exact hold12_drew hS) | (with_reducible refine hold12_alloc _ ?_; with_reducible assumption) | (with_reducible refine hold12_drew (hold12_alloc _ hS)) | (with_reducible refine hold12_set ?_ ?_ ?_ <;> first | (with_reducible assumption) | omega))
          (first
            | (go_at_call 23; with_reducible refine (H1.out _).mono ?_; rintro e wa ⟨rfl, hb1⟩; have hSa := hold12_next (by with_reducible assumption) hb1; obtain ⟨hca, hfa⟩ := bcell hb1; have hza := hb1.size; (try simp only [World.size_alloc, World.size_drew] at hza); (try (have hzl := Nat.lt_of_succ_le hza)))
            | (go_at_call 23; with_reducible refine (H2.out _).mono ?_; rintro e wb ⟨rfl, hb2⟩; have hSb := hold12_next (by with_reducible assumption) hb2; obtain ⟨hcb, hfb⟩ := bcell hb2; have hzb := hb2.size; (try simp only [World.size_alloc] at hzb); (try (have hzm := Nat.lt_of_succ_le hzb)); (try (have hzn := Nat.lt_of_lt_of_le hzl hzb)))
            | (go_at_call 14; with_reducible refine (H3.out _).mono ?_; rintro e wc ⟨rfl, hb3⟩; have hSc := hold12_next (by with_reducible assumption) hb3; obtain ⟨hcc, hfc⟩ := bcell hb3; have hzc := hb3.size; (try simp only [World.size_alloc] at hzc); (try (have hzo := Nat.lt_of_succ_le hzc)); (try (have hzp := Nat.lt_of_lt_of_le hzl hza)); (try (have hzp := Nat.lt_of_lt_of_le hzm hza))))
        all_goals
          go_wp2_with fail
          go_meet
          case rel =>
            refine ⟨_, rfl, rfl, Law5.mk (hold12_last (by with_reducible assumption)) ?_⟩
            first
              | with_reducible exact arow_new _ _ _
              | with_reducible exact end2 hb3
              | with_reducible exact end3 hb2 hb3
              | with_reducible exact end4 hb1 hb2 hb3
      case rest =>
        obtain ⟨M, rfl, rfl, hL5⟩ := hcut
        clear hS
        have HL5 := Lib.hid hL5
        have hS := hold16 hL5
        clear hL5
        have e8 := eqself8
        go_upto_region 18 with (fail)
        go_region_held3 (fun w' => w'.cell? ⟨w.heap.size, 0, none⟩ = some (.int .u64 (d x 0)) ∧ w'.cell? ⟨w.heap.size, 1, none⟩ = some (.int .u64 (d x 1)) ∧ w'.cell? ⟨w.heap.size, 2, none⟩ = some (.int .u64 (d x 2)) ∧ w'.cell? ⟨w.heap.size, 3, none⟩ = some (.int .u64 (d x 3)) ∧ w'.cell? ⟨n18, 0, none⟩ = some (.int .u64 (d s2 0)) ∧ w'.cell? ⟨n18, 1, none⟩ = some (.int .u64 (d s2 1)) ∧ w'.cell? ⟨n18, 2, none⟩ = some (.int .u64 (d s2 2)) ∧ w'.cell? ⟨n18, 3, none⟩ = some (.int .u64 (d s2 3)) ∧ w'.cell? ⟨M, 0, none⟩ = some (.int .u64 (d t 0)) ∧ w'.cell? ⟨M, 1, none⟩ = some (.int .u64 (d t 1)) ∧ w'.cell? ⟨M, 2, none⟩ = some (.int .u64 (d t 2)) ∧ w'.cell? ⟨M, 3, none⟩ = some (.int .u64 (d t 3)) ∧ w'.cell? ⟨M, 4, none⟩ = some (.int .u64 (d t 4)) ∧ w'.cell? ⟨M, 5, none⟩ = some (.int .u64 (d t 5)) ∧ w'.cell? ⟨M, 6, none⟩ = some (.int .u64 (d t 6)) ∧ w'.cell? ⟨M, 7, none⟩ = some (.int .u64 (d t 7)) ∧ Law5 w x y z n18 s2 M t w')
          (first | (with_reducible assumption) | (with_reducible exact hold16 HL5.out) | (with_reducible exact hold16 HL5.out.drew))
          ((go_at_call 23; with_reducible refine (H4.out _).mono ?_; rintro e wa ⟨rfl, hb1⟩; have hSa := hold16_next (by with_reducible assumption) hb1))
        all_goals
          go_wp2_with fail
          go_meet
          case rel => exact (hold16_last (by with_reducible assumption)).h4.h3
    · go_wp2_with fail
      go_meet
      case rel => exact HL3.out
  case rest =>
  clear HSP HL3 HL4
  have HL := Lib.hid hcut
  have r3 := Lib.hid hcut.ha
  have r4 := Lib.hid hcut.hb
  have r5 := Lib.hid hcut.hc
  have b12 := hcut.hw
  have hz0 := (arow_cell r5.out 0).trans rfl
  have lz0 := arow_lt r5.out
  clear hcut
  go_upto_region 21 with (fail)
  clear hz0 lz0
  obtain ⟨n, u, dn, ob, hn, hlt, h1, h2, h3, h4⟩ := law_move x z HX.out
  rw [hn]
  have HU := Lib.hid h1
  have HDN := Lib.hid h2
  have HE := Lib.hid h3
  have HLO := Lib.hid h4
  have HLT := Lib.hid hlt
  clear h1 h2 h3 h4 hn hlt
  have c3_0 := (arow_cell r3.out 0).trans rfl
  have c3_1 := (arow_cell r3.out 1).trans rfl
  have c3_2 := (arow_cell r3.out 2).trans rfl
  have c3_3 := (arow_cell r3.out 3).trans rfl
  have l3 := arow_lt r3.out
  go_wp2_with fail
  clear c3_0 c3_1 c3_2 c3_3 l3
  refine (HU.out _).mono ?_
  rintro e w13 ⟨rfl, h13⟩
  have r3 := Lib.hid (arow_below r3.out h13 (arow_lt r3.out))
  have r4 := Lib.hid (arow_below r4.out h13 (arow_lt r4.out))
  have r5 := Lib.hid (arow_below r5.out h13 (arow_lt r5.out))
  have b13 := b12.trans (h13.mono b12.size)
  clear h13
  go_wp2_with fail
  have r3 := Lib.hid (arow_alloc (.cells #[.int .u64 (d u 0), .int .u64 (d u 1), .int .u64 (d u 2), .int .u64 (d u 3)] 24) r3.out)
  have r4 := Lib.hid (arow_alloc (.cells #[.int .u64 (d u 0), .int .u64 (d u 1), .int .u64 (d u 2), .int .u64 (d u 3)] 24) r4.out)
  have r5 := Lib.hid (arow_alloc (.cells #[.int .u64 (d u 0), .int .u64 (d u 1), .int .u64 (d u 2), .int .u64 (d u 3)] 24) r5.out)
  have r23 := Lib.hid (arow_new w13 #[.int .u64 (d u 0), .int .u64 (d u 1), .int .u64 (d u 2), .int .u64 (d u 3)] 24)
  have b13 := b13.alloc b13.size (.cells #[.int .u64 (d u 0), .int .u64 (d u 1), .int .u64 (d u 2), .int .u64 (d u 3)] 24)
  generalize (w13.alloc (.cells #[.int .u64 (d u 0), .int .u64 (d u 1), .int .u64 (d u 2), .int .u64 (d u 3)] 24)) = v13 at *
  generalize w13.heap.size = n23 at *
  refine (HDN.out _).mono ?_
  rintro e w14 ⟨rfl, h14⟩
  have r3 := Lib.hid (arow_below r3.out h14 (arow_lt r3.out))
  have r4 := Lib.hid (arow_below r4.out h14 (arow_lt r4.out))
  have r5 := Lib.hid (arow_below r5.out h14 (arow_lt r5.out))
  have r23 := Lib.hid (arow_below r23.out h14 (arow_lt r23.out))
  have b14 := b13.trans (h14.mono b13.size)
  clear h14
  have heq := HE.out
  have hlo := HLO.out
  have c3_0 := (arow_cell r3.out 0).trans rfl
  have c3_1 := (arow_cell r3.out 1).trans rfl
  have c3_2 := (arow_cell r3.out 2).trans rfl
  have c3_3 := (arow_cell r3.out 3).trans rfl
  have l3 := arow_lt r3.out
  go_upto_region 25 with (fail)
  clear c3_0 c3_1 c3_2 c3_3 l3
  clear heq hlo HE HLO HU HDN HLT
  have HL3 := Lib.hid (Law3.mk r3.out r4.out r5.out b14 : Law3 w x y z w14)
  clear r3 r4 r5 r23 b14
  obtain ⟨c1, c2, b, h0, h1, h2, h3, h4, h5, h6, h7, h8⟩ := law_last x y HX.out HY.out
  have G1 := Lib.hid h1
  have G2 := Lib.hid h2
  have G3 := Lib.hid h3
  have G4 := Lib.hid h4
  have G5 := Lib.hid h5
  have G6 := Lib.hid h6
  have G7 := Lib.hid h7
  have G8 := Lib.hid h8
  clear h1 h2 h3 h4 h5 h6 h7 h8
  have e8 := eqself8
  go_region_held3 (fun w' => w'.cell? ⟨w.heap.size, 0, none⟩ = some (.int .u64 (d x 0)) ∧ w'.cell? ⟨w.heap.size, 1, none⟩ = some (.int .u64 (d x 1)) ∧ w'.cell? ⟨w.heap.size, 2, none⟩ = some (.int .u64 (d x 2)) ∧ w'.cell? ⟨w.heap.size, 3, none⟩ = some (.int .u64 (d x 3)) ∧ w'.cell? ⟨w.heap.size + 1, 0, none⟩ = some (.int .u64 (d y 0)) ∧ w'.cell? ⟨w.heap.size + 1, 1, none⟩ = some (.int .u64 (d y 1)) ∧ w'.cell? ⟨w.heap.size + 1, 2, none⟩ = some (.int .u64 (d y 2)) ∧ w'.cell? ⟨w.heap.size + 1, 3, none⟩ = some (.int .u64 (d y 3)) ∧ Law3 w x y z w')
      (first | (with_reducible assumption) | (with_reducible exact hold8 (HL3.out.alloc _)) | (with_reducible exact hold8 (HL3.out.alloc _).drew))
      (first
        | (go_at_call 23; with_reducible refine (G1.out _).mono ?_; rintro e wa ⟨rfl, hb1⟩; have hSa := hold8_next (by with_reducible assumption) hb1)
        | (go_at_call 32; with_reducible refine (G2.out _).mono ?_; rintro e wa ⟨rfl, hb1⟩; have hSa := hold8_next (by with_reducible assumption) hb1)
        | (go_at_call 32; with_reducible refine (G3.out _).mono ?_; rintro e wa ⟨rfl, hb1⟩; have hSa := hold8_next (by with_reducible assumption) hb1)
        | (go_at_call 16; with_reducible refine (G4.out _).mono ?_; rintro e wa ⟨rfl, hb1⟩; have hSa := hold8_next (by with_reducible assumption) hb1)
        | (go_at_call 16; with_reducible refine (G5.out _).mono ?_; rintro e wa ⟨rfl, hb1⟩; have hSa := hold8_next (by with_reducible assumption) hb1)
        | (go_at_call 18; with_reducible refine (G6.out _).mono ?_; rintro e wa ⟨rfl, hb1⟩; have hSa := hold8_next (by with_reducible assumption) hb1)
        | (go_at_call 21; with_reducible refine (G7.out _).mono ?_; rintro e wa ⟨rfl, hb1⟩; have hSa := hold8_next (by with_reducible assumption) hb1)
        | (go_at_call 19; with_reducible refine (G8.out _).mono ?_; rintro e wa ⟨rfl, hb1⟩; have hSa := hold8_next (by with_reducible assumption) hb1))
  all_goals
    go_wp2_with fail
    go_ret
    exact ⟨rfl, (hold8_last (by with_reducible assumption)).hw⟩
end Go.Proofs.Ytiglhgcckceikaa
