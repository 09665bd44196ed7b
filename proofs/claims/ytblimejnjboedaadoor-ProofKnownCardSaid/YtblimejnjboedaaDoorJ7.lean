/- The sum at once. -/
import Derived.Test.YtblimejnjboedaaDoorJ6
import Derived.Test.YtblimejnjboedaaDoorJ1
import Derived.Deep.RegionLaw
import Derived.Test.YtblimejnjboedaaDoorJ4
namespace Go.Proofs.YtblimejnjboedaaDoor
open Go.RowKit

set_option maxHeartbeats 400000 in
theorem shaSum_any (S : List UInt8) (w : World) (hg : Glob w) (hlen : S.length < 100000000000) :
    Calls Tryd.prog 30 #[.string ⟨S.toArray⟩] w fun e w' => e = .returned (.string ⟨(shaL S).toArray⟩) ∧ Below w.heap.size w w' := by
  have hsz := hg.size
  go_enter Tryd.func30, Tryd.ntmps30
  go_wp2_with fail
  refine (new_any w hg).mono ?_
  rintro e w1 ⟨rfl, hH1, hB1⟩
  have hG1 : Glob w1 := hg.below (by omega) hB1
  go_wp2_with fail
  refine (write_any w.heap.size [] S w1 hH1 hG1 (by omega) (by simp; omega)).mono ?_
  rintro e w2 ⟨rfl, hH2, hB2⟩
  rw [List.nil_append] at hH2
  have hB12 : Below w.heap.size w w2 := hB1.trans (hB2.below hB1.size (Nat.le_refl _))
  have hG2 : Glob w2 := hg.below (by omega) hB12
  go_wp2_with fail
  refine (sum_any w.heap.size S w2 hH2 hG2 (by omega)).mono ?_
  rintro e w3 ⟨rfl, hB3⟩
  go_wp2
  go_ret
  exact ⟨rfl, hB12.trans (hB3.mono (by have := hB12.size; omega))⟩
end Go.Proofs.YtblimejnjboedaaDoor
/- Append within the capacity, as one step of a region that draws; cuts of a text; the length of a sum. -/
namespace Go.Proofs.YtblimejnjboedaaDoor
open Go.RowKit

/-- append within the capacity, as one step of a region that draws -/
theorem step_append_fits {P : Program} {w : World} {ops : Array Oper} {o : Oper} {a : Act} {K : Act → World → Prop} {Q : Exit → Act → World → Prop} {E : Prop}
    (hg : o.guard = none) (s x : Operand) (t : TypeId) (hop : o.op = Op.call { callee := Callee.builtin Builtin.append, args := #[s, x], argTypes := #[t, t] })
    (base : Nat) (e : TypeId) (i : TypeInfo) (size : Nat) (h1 : P.underlying t = some (.slice e)) (h2 : P.info? e = some i) (h4 : i.size = size)
    (g k cap : Nat) (xs : List Value) (hs : a.eval s = .slice (some ⟨g, 0, none⟩) k cap) (hown : w.ownsRow base e size (.slice (some ⟨g, 0, none⟩) k cap) k xs) (ad : Addr) (m c : Nat) (news : List Value) (hx : a.eval x = .slice (some ad) m c) (hn : news.length = m * size)
    (hc : ∀ j u, news[j]? = some u → w.cell? (ad.add j) = some u) (h1c : ∀ u ∈ news, u.oneCell' = true) (b1 : k + m ≤ cap)
    (hK : ∀ w', w'.ownsRow base e size (.slice (some ⟨g, 0, none⟩) (k + m) cap) (k + m) (xs ++ news) → w.grownBy w' (some g) → K (a.put o.dst (.slice (some ⟨g, 0, none⟩) (k + m) cap)) w') :
    if Region.wanted o (yielded ops a.tmps) = true then Oper.wp P o a w K Q else E := by
  have hw : Region.wanted o (yielded ops a.tmps) = true := by simp [Region.wanted, hg]
  rw [if_pos hw]
  obtain ⟨w', hrun, r1, r2⟩ := run_append_fits (P := P) w base t o.type e i size h1 h2 h4 g k cap xs hown ad m c news hn hc h1c b1
  unfold Oper.wp
  simp [execOp, hop, resolve, invoke, builtin, hs, hx, hrun, Result.andThen]
  exact hK w' r1 r2

theorem cut_str (S : List UInt8) (j N : Nat) (h : j ≤ N) : ∃ T : List UInt8, (⟨S.toArray⟩ : ByteArray).extract 0 j = ⟨T.toArray⟩ ∧ T.length ≤ N :=
  ⟨S.take j, by rw [extract_list, List.drop_zero], by rw [List.length_take]; omega⟩

theorem shaL_length (T : List UInt8) : (shaL T).length = 32 := digestTo_length _ 8
end Go.Proofs.YtblimejnjboedaaDoor
/- A frame of a tag that is none; all frames; and the hashes of frames, by the program. -/
namespace Go.Proofs.YtblimejnjboedaaDoor
open Go.RowKit

set_option maxHeartbeats 400000 in
theorem frame_bad (tag : List UInt8) (v : Value) (w : World) (h : tag.length < 1 ∨ 16 < tag.length) (hm : tag.length ≤ maxLen) :
    Calls Tryd.prog 29 #[.string ⟨tag.toArray⟩, v] w fun e w' => e = .returned (.string ⟨#[]⟩) ∧ w = w' := by
  unfold maxLen at hm
  rcases h with h | h
  · go_enter Tryd.func29, Tryd.ntmps29
    go_wp2
    go_ret
    exact ⟨rfl, rfl⟩
  · have h1 : ¬ tag.length < 1 := by omega
    go_enter Tryd.func29, Tryd.ntmps29
    go_wp2
    go_ret
    exact ⟨rfl, rfl⟩
/-- a tag that is one -/
def Tag (tag : List UInt8) : Prop := 1 ≤ tag.length ∧ tag.length ≤ 16
instance (tag : List UInt8) : Decidable (Tag tag) := by unfold Tag; infer_instance
/-- the frame, and nothing for a tag that is none -/
def frameL (tag : List UInt8) (ps : List (List UInt8)) : List UInt8 := if Tag tag then framed tag ps else []
def hashL (tag : List UInt8) (ps : List (List UInt8)) : List UInt8 := if Tag tag then shaL (framed tag ps) else []

theorem frameAll (tag : List UInt8) (ao : Option Addr) (cap : Nat) (L : List (List UInt8)) (w : World) (hs : Strs ao L w) (hm : tag.length ≤ maxLen) (hlen : (framed tag L).length < 100000000000) :
    Calls Tryd.prog 29 #[.string ⟨tag.toArray⟩, .slice ao L.length cap] w fun e w' => e = .returned (.string ⟨(frameL tag L).toArray⟩) ∧ Below w.heap.size w w' := by
  by_cases h : Tag tag
  · rw [frameL, if_pos h]; exact frame_any tag ao cap L w hs h.1 h.2 hlen
  · rw [frameL, if_neg h]
    exact (frame_bad tag _ w (by unfold Tag at h; omega) hm).mono fun e w' ⟨he, hw⟩ => ⟨he, hw ▸ Below.refl _ _⟩
theorem not_empty (l : List UInt8) (h : l ≠ []) : l.isEmpty = false := by
  cases l <;> simp_all

set_option maxHeartbeats 1000000 in
theorem hash_any (tag : List UInt8) (ao : Option Addr) (cap : Nat) (L : List (List UInt8)) (w : World) (hg : Glob w) (hs : Strs ao L w) (hm : tag.length ≤ maxLen) (hlen : (framed tag L).length < 100000000000) :
    Calls Tryd.prog 9 #[.string ⟨tag.toArray⟩, .slice ao L.length cap] w fun e w' => e = .returned (.string ⟨(hashL tag L).toArray⟩) ∧ Below w.heap.size w w' := by
  have hsz := hg.size
  by_cases h : Tag tag
  · rw [hashL, if_pos h]
    have hf := frameAll tag ao cap L w hs hm hlen
    rw [frameL, if_pos h] at hf
    obtain ⟨F, hF⟩ : ∃ F, framed tag L = F := ⟨_, rfl⟩
    have hne := not_empty F (by rw [← hF]; exact List.cons_ne_nil _ _)
    rw [hF] at hlen hf ⊢
    clear hF
    go_enter Tryd.func9, Tryd.ntmps9
    go_wp2_with fail
    refine hf.mono ?_
    rintro e w1 ⟨rfl, hb1⟩
    clear hf
    have hG1 : Glob w1 := hg.below (by omega) hb1
    go_wp2_with fail
    refine (shaSum_any F w1 hG1 hlen).mono ?_
    rintro e w2 ⟨rfl, hb2⟩
    go_wp2
    go_ret
    exact ⟨rfl, hb1.trans (hb2.mono hb1.size)⟩
  · rw [hashL, if_neg h]
    have hf := frameAll tag ao cap L w hs hm hlen
    rw [frameL, if_neg h] at hf
    go_enter Tryd.func9, Tryd.ntmps9
    go_wp2_with fail
    refine hf.mono ?_
    rintro e w1 ⟨rfl, hb1⟩
    clear hf
    go_wp2
    go_ret
    exact ⟨rfl, hb1⟩

/-- a row of texts that was just made -/
theorem strs_new (w : World) (L : List (List UInt8)) (C : Array Value) (hC : C = (L.map fun x => Value.string ⟨x.toArray⟩).toArray) : Strs (some ⟨w.heap.size, 0, none⟩) L (w.alloc (.cells C 9)) := by
  refine .inr ⟨_, _, rfl, by simp, fun i hi => ?_⟩
  rw [Nat.zero_add, cell_of_row _ _ _ _ 9 _ (heap_alloc_new w _), hC]
  simp [hi]
end Go.Proofs.YtblimejnjboedaaDoor
