/- Layout's sets: has, gather; leaves and elements. -/
import Derived.Test.YtcobflhnphikaaaHf
import Derived.Maps.OwnIn
namespace Go.Proofs.Ytcobflhnphikaaa
open Go.RowKit
open Go.Maps (Keyed)

theorem leaf_any (k : Nat) (hk : k < 18446744073709551616) (d : Int) (w : World) : Calls Try.prog 10 #[.int .u64 (k : Int), .int .i64 d] w fun e w' => e = .returned (.int .u64 (turnB k d : Int)) ∧ w = w' := by
  have HC := Lib.hid (turned_any k hk d w)
  go_enter Try.func10, Try.ntmps10
  go_wp2_with (go_at_call 23; refine HC.out.mono ?_; rintro e w' ⟨rfl, rfl⟩)
  go_ret
  exact ⟨rfl, rfl⟩
theorem element_any (k : Nat) (hk : k < 18446744073709551616) (d : Int) (w : World) : Calls Try.prog 12 #[.int .u64 (k : Int), .int .i64 d] w fun e w' => e = .returned (.int .u64 (turnB k d : Int)) ∧ w = w' := by
  have HC := Lib.hid (turned_any k hk d w)
  go_enter Try.func12, Try.ntmps12
  go_wp2_with (go_at_call 23; refine HC.out.mono ?_; rintro e w' ⟨rfl, rfl⟩)
  go_ret
  exact ⟨rfl, rfl⟩

theorem keyU : Keyed Try.prog 22 := Maps.int_keyed Try.underlying22
theorem key_of {k : Nat} (h : k < 18446744073709551616) : keyOf Try.prog 22 (.int .u64 (k : Int)) = some (lit k) := Maps.keyOf_int_mk Try.underlying22 (lit_wf h)
abbrev SetU (b n : Nat) (K : List Nat) (w : World) : Prop := SetAt Try.prog 22 b n K w
abbrev RangeU (b r n : Nat) (K V : List Nat) (w : World) : Prop := RangeAt Try.prog 22 b r n K V w
theorem has_any (b n : Nat) (K : List Nat) (k : Nat) (hk : k < 18446744073709551616) (w : World) (hs : SetU b n K w) : Calls Try.prog 39 #[.map (some b), .int .u64 (k : Int)] w fun e w' => e = .returned (.bool (decide (k ∈ K))) ∧ w.grownBy w' none := by
  obtain ⟨D, hown, hD⟩ := hs
  have hd := hD k
  have hkey := key_of hk
  clear hD
  go_enter Try.func39, Try.ntmps39
  go_wp2_with (at_lookup; refine wpList_lookup_own_unit _ rfl _ _ 48 rfl 22 58 keyU Try.underlying48 (Try.zeroValue58 _) b n D rfl hown _ _ rfl hkey ?_)
  go_ret
  refine ⟨by rw [← hd]; rfl, ?_⟩
  exact World.grownBy_alloc _ _ _

/-- the slice at ao lays the numbers L -/
def Nums (ao : Option Addr) (L : List Nat) (w : World) : Prop := L = [] ∨ ∃ b off, ao = some ⟨b, off, none⟩ ∧ b < w.heap.size ∧ ∀ i (h : i < L.length), w.cell? ⟨b, off + i, none⟩ = some (.int .u64 (L[i] : Int))
theorem Nums.kept {S : Nat → Prop} {ao : Option Addr} {L : List Nat} {w w' : World} (h : Nums ao L w) (hk : Kept S w w') (hS : ∀ b, (∃ off, ao = some ⟨b, off, none⟩) → S b) : Nums ao L w' := by
  rcases h with h | ⟨b, off, rfl, h2, h3⟩
  · exact .inl h
  · refine .inr ⟨b, off, rfl, by have := hk.size; omega, fun i hi => ?_⟩
    rw [World.cell?_of_block (hk.block b h2 (hS b ⟨off, rfl⟩))]
    exact h3 i hi
theorem Nums.grown {row : Option Nat} {ao : Option Addr} {L : List Nat} {w w' : World} (h : Nums ao L w) (hg : w.grownBy w' row) (hS : ∀ b off, ao = some ⟨b, off, none⟩ → some b ≠ row) : Nums ao L w' := by
  rcases h with h | ⟨b, off, rfl, h2, h3⟩
  · exact .inl h
  · refine .inr ⟨b, off, rfl, by have := hg.size; omega, fun i hi => ?_⟩
    rw [World.cell?_of_block (hg.block b h2 (hS b off rfl))]
    exact h3 i hi
theorem SetAt.no_cell {P : Program} {ku : TypeId} {b n : Nat} {K : List Nat} {w : World} (h : SetAt P ku b n K w) (o : Nat) : w.cell? ⟨b, o, none⟩ = none := by
  obtain ⟨D, ⟨es, clock, hb, _⟩, _⟩ := h
  simp [World.cell?, hb]
set_option maxRecDepth 100000 in
set_option maxHeartbeats 1000000 in
theorem gather_any (b n : Nat) (K L : List Nat) (ao : Option Addr) (cap : Nat) (w : World) (hs : SetU b n K w) (hn : Nums ao L w) (hL : ∀ x ∈ L, x < 18446744073709551616) (hb : n + L.length ≤ 100000) :
    Calls Try.prog 37 #[.map (some b), .slice ao L.length cap] w fun e w' => e = .returned (.tuple #[]) ∧ SetU b (n + L.length) (K ++ L) w' ∧ w.grownBy w' (some b) := by
  have HL := Lib.hid hL
  have HN := Lib.hid hn
  have HS := Lib.hid hs
  have n1 : (L.length : Int) ≤ 100000 := by omega
  clear hL hn hs
  go_enter Try.func37, Try.ntmps37
  go_wp2
  go_loopw [8] (fun i wr => ∃ k : Nat, k ≤ L.length ∧ i = .int .i64 (k : Int) ∧ Hid (SetU b (n + k) (K ++ L.take k) wr) ∧ Hid (w.grownBy wr (some b))) (fun i _ => (L.length : Int).toNat - (intOf i).toNat)
  case atStart => exact ⟨0, Nat.zero_le _, rfl, Lib.hid (by simpa using HS.out), Lib.hid ⟨rfl, rfl, rfl, Nat.le_refl _, fun _ _ _ => rfl⟩⟩
  case round =>
    obtain ⟨k, hk, rfl, HT, HG⟩ := hrel
    by_cases hke : k = L.length
    · have hl : ¬ (k : Int) < (L.length : Int) := by omega
      have HE := Lib.hid (show SetU b (n + L.length) (K ++ L) wr by have := HT.out; rw [hke, List.take_length] at this; exact this)
      clear hk hke
      go_wp2
      go_end0
      exact ⟨rfl, HE.out, HG.out⟩
    · have hkl : k < L.length := by omega
      have hl : (k : Int) < (L.length : Int) := by omega
      have i0 : (0 : Int) ≤ (k : Int) := by omega
      obtain ⟨x, hx⟩ : ∃ x, L[k] = x := ⟨_, rfl⟩
      have hx64 : x < 18446744073709551616 := hx ▸ HL.out _ (List.getElem_mem hkl)
      have hkey := key_of hx64
      rcases HN.out with h0 | ⟨bb, off, rfl, hbb, hcell⟩
      · subst h0; simp at hkl
      · have hne : bb ≠ b := fun e => by
          have h1 := hcell k hkl
          rw [e, HS.out.no_cell] at h1
          cases h1
        have hc : wr.cell? ⟨bb, off + k, none⟩ = some (.int .u64 (x : Int)) := by
          rw [World.cell?_of_block (HG.out.block bb hbb (fun e => hne (Option.some.inj e))), ← hx]
          exact hcell k hkl
        have HX := Lib.hid hx
        clear hx hcell hke
        obtain ⟨D, hown, hD⟩ := HT.out
        have HD := Lib.hid hD
        clear hD
        go_wp2_with (at_mapUpdate; refine wpList_mapUpdate_own _ rfl _ _ _ 48 rfl 22 58 keyU Try.underlying48 unitElem b (n + k) D rfl hown (by unfold maxLen; omega) _ _ (lit x) rfl rfl hkey (.agg []) [] unitElem_mk ?_; intro w1 hown1 hgrow1; have HO1 := Lib.hid hown1; have HG1 := Lib.hid hgrow1; clear hown1 hgrow1)
        go_roundw
        case rel =>
          refine ⟨k + 1, hkl, by go_num, Lib.hid ?_, Lib.hid ?_⟩
          · have := SetAt.push (x := x) hown HD.out HO1.out
            rw [List.append_assoc, ← HX.out, List.take_append_getElem hkl] at this
            exact this
          · exact HG.out.andThen HG1.out (fun j hj => .inr hj)
        case measure => simp [intOf] <;> omega
end Go.Proofs.Ytcobflhnphikaaa
