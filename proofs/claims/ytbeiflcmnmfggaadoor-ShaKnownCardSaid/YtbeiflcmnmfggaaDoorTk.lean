/- The base 16 of some bytes, for fewer than a thousand. -/
import Derived.Test.YtbeiflcmnmfggaaDoorTj
import Derived.Deep.RegionLaw
namespace Go.Proofs.YtbeiflcmnmfggaaDoor
open Go.RowKit

def digits : List UInt8 := [48, 49, 50, 51, 52, 53, 54, 55, 56, 57, 97, 98, 99, 100, 101, 102]
def hex2 (c : UInt8) : List UInt8 := [digits.getD (c.toNat / 16) 0, digits.getD (c.toNat % 16) 0]
def hexTo (l : List UInt8) (k : Nat) : List UInt8 := (l.take k).flatMap hex2
theorem hexTo_succ (l : List UInt8) (k : Nat) (h : k < l.length) : hexTo l (k + 1) = hexTo l k ++ hex2 l[k] := by
  rw [hexTo, List.take_succ_eq_append_getElem h, List.flatMap_append]; simp [hexTo]

theorem and15 (x : Nat) (h : x < 256) : bits BinOp.and IntKind.u8 (x : Int) 15 = ((x % 16 : Nat) : Int) := by
  revert x
  decide +kernel

/-- append within the capacity, as one step of a region that draws -/
theorem step_append_fits {P : Program} {w : World} {ops : Array Oper} {o : Oper} {a : Act} {K : Act → World → Prop} {Q : Exit → Act → World → Prop} {E : Prop}
    (hg : o.guard = none) (s x : Operand) (t : TypeId) (hop : o.op = Op.call { callee := Callee.builtin Builtin.append, args := #[s, x], argTypes := #[t, t] })
    (base : Nat) (e : TypeId) (i : TypeInfo) (size : Nat) (h1 : P.underlying t = some (.slice e)) (h2 : P.info? e = some i) (h4 : i.size = size)
    (g k cap : Nat) (xs : List Value) (hs : a.eval s = .slice (some ⟨g, 0, none⟩) k cap) (hown : w.ownsRow base e size (.slice (some ⟨g, 0, none⟩) k cap) k xs) (ad : Addr) (m c : Nat) (news : List Value) (hx : a.eval x = .slice (some ad) m c) (hn : news.length = m * size)
    (hc : ∀ j u, news[j]? = some u → w.cell? (ad.add j) = some u) (h1c : ∀ u ∈ news, u.oneCell' = true) (b1 : k + m ≤ cap)
    (hK : ∀ w', w'.ownsRow base e size (.slice (some ⟨g, 0, none⟩) (k + m) cap) (k + m) (xs ++ news) → w.grownBy w' (some g) → K (a.put o.dst (.slice (some ⟨g, 0, none⟩) (k + m) cap)) w') :
    if Region.wanted o (yielded ops a.tmps) = true then Oper.wp P o a w K Q else E := by
  have hw : Region.wanted o (yielded ops a.tmps) = true := by simp [Region.wanted, hg]
  rw [if_pos hw]
  obtain ⟨w', hrun, r1, r2⟩ := run_append_fits (P := P) w base t o.type e i size h1 h2 h4 g k cap xs hown ad m c news hn hc h1c b1
  unfold Oper.wp
  simp [execOp, hop, resolve, invoke, builtin, hs, hx, hrun, Result.andThen]
  exact hK w' r1 r2

theorem run_digit (x : Int) (j : Nat) (hj : j < 16) (hx : x = (j : Int)) (w : World) : (Instr.index 9 (.string ⟨#[48, 49, 50, 51, 52, 53, 54, 55, 56, 57, 97, 98, 99, 100, 101, 102]⟩) (.int .u8 x)).run Tryd.prog w = .ok (.int .u8 ((digits.getD j 0).toNat : Int)) w := by
  subst hx
  rw [run_index_string w 9 _ _ _ Tryd.underlying9, dif_pos ⟨by omega, by show (j : Int) < 16; omega⟩]
  have e : ∀ j (h : j < 16), ((⟨#[48, 49, 50, 51, 52, 53, 54, 55, 56, 57, 97, 98, 99, 100, 101, 102]⟩ : ByteArray)[j]'h).toNat = (digits.getD j 0).toNat := by decide +kernel
  exact congrArg (fun y : Nat => Result.ok (Value.int .u8 (y : Int)) w) (e j hj)

set_option maxRecDepth 100000 in
set_option maxHeartbeats 1000000 in
theorem hex_any (l : List UInt8) (w : World) (hl : l.length < 1000) :
    Calls Tryd.prog 17 #[.string ⟨l.toArray⟩] w fun e w' => e = .returned (.string ⟨(hexTo l l.length).toArray⟩) ∧ Below w.heap.size w w' := by
  obtain ⟨i0, hi, hz0, hz1, hz2⟩ := info_parts Tryd.info5
  obtain ⟨n, hn⟩ : ∃ n, l.length = n := ⟨_, rfl⟩
  obtain ⟨C, hC⟩ : ∃ C, C = madeCells #[.int .u8 0] (2 * n) := ⟨_, rfl⟩
  have hmk : ∀ w, (Instr.makeSlice 22 (.int .i64 0) (.int .i64 (2 * (l.length : Int)))).run Tryd.prog w = .ok (.slice (some ⟨w.heap.size, 0, none⟩) 0 (2 * n)) (w.alloc (.cells C 5)) := by
    intro w
    have h := run_make (P := Tryd.prog) w 22 5 i0 (.int .u8 0) Tryd.underlying22 hi hz0 .i64 .i64 0 (2 * (l.length : Int)) (by omega) (by omega) (by rw [hz2]; omega) (by omega)
    rw [show (0:Int).toNat = 0 by omega, show (2 * (l.length : Int)).toNat = 2 * n by omega, hz1, Nat.mul_one] at h
    rw [hC]
    exact h
  have hCs := Lib.hid (show C.size = 2 * n by rw [hC]; exact size_madeCells _ _)
  have Hn := Lib.hid hn
  clear hC hn
  go_enter Tryd.func17, Tryd.ntmps17
  go_wp2
  go_loopw [4, 5] (fun v' i wr => ∃ k : Nat, k ≤ l.length ∧ i = .int .i64 (k : Int) ∧ v' = .slice (some ⟨w.heap.size, 0, none⟩) (2 * k) (2 * n) ∧
      wr.ownsRow w.heap.size 5 1 (.slice (some ⟨w.heap.size, 0, none⟩) (2 * k) (2 * n)) (2 * k) (cellsOf (hexTo l k)) ∧ Below w.heap.size w wr)
    (fun _ i _ => l.length - (intOf i).toNat)
  case atStart =>
    exact ⟨0, by omega, rfl, rfl, ⟨rfl, .inr ⟨_, _, _, rfl, Nat.le_refl _, heap_alloc_new w _, by omega, by unfold maxLen; have := Hn.out; omega, by rw [hCs.out]; omega, by simp [hexTo, cellsOf]⟩⟩, (Below.refl _ _).alloc (Nat.le_refl _) _⟩
  case round =>
    obtain ⟨k, hk, rfl, rfl, hown, hbe⟩ := hrel
    by_cases hlt : k < l.length
    · have hz := hbe.size
      obtain ⟨c, hc⟩ : ∃ c, l[k].toNat = c := ⟨_, rfl⟩
      have c1 : c < 256 := by rw [← hc]; exact l[k].toNat_lt
      have hx : ∀ w, (Instr.index 9 (.string ⟨l.toArray⟩) (.int .i64 (k : Int))).run Tryd.prog w = .ok (.int .u8 (c : Int)) w := by
        intro w
        rw [run_index_string w 9 _ _ _ Tryd.underlying9, dif_pos ⟨by omega, by show (k : Int) < (l.length : Int); omega⟩, ← hc]
        rfl
      obtain ⟨x1, hx1⟩ : ∃ x1, digits.getD (c / 16) 0 = x1 := ⟨_, rfl⟩
      obtain ⟨x2, hx2⟩ : ∃ x2, digits.getD (c % 16) 0 = x2 := ⟨_, rfl⟩
      have hd1 : ∀ w, (Instr.index 9 (.string ⟨#[48, 49, 50, 51, 52, 53, 54, 55, 56, 57, 97, 98, 99, 100, 101, 102]⟩) (.int .u8 ((c : Int) / 16))).run Tryd.prog w = .ok (.int .u8 (x1.toNat : Int)) w := by
        intro w
        rw [← hx1]
        exact run_digit _ (c / 16) (by omega) (by omega) w
      have hd2 : ∀ w, (Instr.index 9 (.string ⟨#[48, 49, 50, 51, 52, 53, 54, 55, 56, 57, 97, 98, 99, 100, 101, 102]⟩) (.int .u8 (bits BinOp.and IntKind.u8 (c : Int) 15))).run Tryd.prog w = .ok (.int .u8 (x2.toNat : Int)) w := by
        intro w
        rw [← hx2]
        exact run_digit _ (c % 16) (by omega) (and15 c c1) w
      have HO := Lib.hid (show cellsOf (hexTo l k) ++ [Value.int .u8 (x1.toNat : Int), .int .u8 (x2.toNat : Int)] = cellsOf (hexTo l (k + 1)) by
        rw [hexTo_succ l k hlt, cellsOf_append, hex2, hc, hx1, hx2]; rfl)
      have hnn : 2 * k + 2 ≤ 2 * n := by have := Hn.out; omega
      clear hc c1 hx1 hx2
      go_wp2
      go_region_law (refine step_append_fits rfl (.tmp 16) (.tmp 29) 22 rfl w.heap.size 5 i0 1 Tryd.underlying22 hi hz1 w.heap.size (2 * k) (2 * n) _ rfl ((hown.alloc _).drew) ⟨wr.heap.size, 0, none⟩ 2 2 [Value.int .u8 (x1.toNat : Int), .int .u8 (x2.toNat : Int)] rfl rfl (news_new wr _ _) (by simp [Value.oneCell']) hnn ?_; intro w1 hown1 hgrow)
      all_goals
        rw [HO.out] at hown1
        clear hown
        go_wp2
        go_roundw
        case rel => exact ⟨k + 1, by omega, by go_num, rfl, hown1, ((hbe.alloc hz _).drew).grown hgrow (by simp; omega) (fun k' e => by cases e; exact Nat.le_refl _)⟩
        case measure => simp [intOf]; omega
    · have ek : k = l.length := by omega
      subst ek
      have hll : Hid ((hexTo l l.length).length = 2 * l.length) := Lib.hid (by have := hown.1; rw [cellsOf_length] at this; omega)
      have hconv := run_convert_bytes_back wr 22 9 5 ⟨w.heap.size, 0, none⟩ (2 * n) (hexTo l l.length) Tryd.underlying22 Tryd.underlying5 Tryd.underlying9 (owned_bytes hown rfl)
      rw [hll.out] at hconv
      go_wp2
      go_ret
      exact ⟨rfl, hbe⟩
end Go.Proofs.YtbeiflcmnmfggaaDoor
