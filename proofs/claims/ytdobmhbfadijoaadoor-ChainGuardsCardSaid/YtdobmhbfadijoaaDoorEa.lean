/- Layer 12: a digest's digits, plainly; which of them are less; walks along a chain. -/
import Derived.Test.YtdobmhbfadijoaaDoorAp2
import Derived.Laws.IdiomStrings
namespace Go.Proofs.YtdobmhbfadijoaaDoor
open Go.RowKit

/-- the digits of a text's bytes, and of what they lack -/
def hvL (s : (List UInt8)) : List Nat := s.flatMap fun b => [b.toNat / 16, b.toNat % 16]
def lackL (s : (List UInt8)) : Nat := (s.map fun b => 30 - b.toNat / 16 - b.toNat % 16).sum
def digL (s : (List UInt8)) : List Nat := hvL s ++ [lackL s / 256, lackL s / 16 % 16, lackL s % 16]
/-- what Digits answers -/
def digC (s : (List UInt8)) : List Nat := if s.length = 32 then digL s else []
theorem b256 (b : UInt8) : b.toNat < 256 := UInt8.toNat_lt b
theorem hvL_len : ∀ s : (List UInt8), (hvL s).length = 2 * s.length
  | [] => rfl
  | b :: s => by have := hvL_len s; simp only [hvL, List.flatMap_cons, List.length_append, List.length_cons, List.length_nil] at *; omega
theorem digL_len {s : (List UInt8)} (h : s.length = 32) : (digL s).length = 67 := by rw [digL, List.length_append, hvL_len, h]; rfl
theorem digC_len (s : (List UInt8)) : (digC s).length = if s.length = 32 then 67 else 0 := by
  unfold digC
  split
  · rename_i h; exact digL_len h
  · rfl
theorem lackL_cons (b : UInt8) (s : (List UInt8)) : lackL (b :: s) = (30 - b.toNat / 16 - b.toNat % 16) + lackL s := by rw [lackL, List.map_cons, List.sum_cons, ← lackL]
theorem lackL_le : ∀ s : (List UInt8), lackL s ≤ 30 * s.length
  | [] => by simp [lackL]
  | b :: s => by have := lackL_le s; rw [lackL_cons, List.length_cons]; omega
theorem hvL_hi : ∀ (s : (List UInt8)) (i : Nat) (h : i < s.length), (hvL s)[2 * i]? = some (s[i].toNat / 16) ∧ (hvL s)[2 * i + 1]? = some (s[i].toNat % 16)
  | [], i, h => by simp at h
  | b :: s, 0, h => ⟨rfl, rfl⟩
  | b :: s, i + 1, h => by
    have := hvL_hi s i (by simpa using h)
    simp only [hvL, List.flatMap_cons] at *
    rw [show 2 * (i + 1) = 2 * i + 1 + 1 by omega]
    simpa using this
theorem digL_at {s : (List UInt8)} (h : s.length = 32) (i : Nat) (hi : i < 32) : (digL s)[2 * i]? = some (s[i].toNat / 16) ∧ (digL s)[2 * i + 1]? = some (s[i].toNat % 16) := by
  have h1 := hvL_hi s i (by omega)
  have h2 := hvL_len s
  rw [digL, List.getElem?_append_left (by omega), List.getElem?_append_left (by omega)]
  exact h1
theorem digL_top {s : (List UInt8)} (h : s.length = 32) : (digL s)[64]? = some (lackL s / 256) ∧ (digL s)[65]? = some (lackL s / 16 % 16) ∧ (digL s)[66]? = some (lackL s % 16) := by
  have h2 := hvL_len s
  rw [digL, List.getElem?_append_right (by omega), List.getElem?_append_right (by omega), List.getElem?_append_right (by omega), h2, h]
  exact ⟨rfl, rfl, rfl⟩
theorem hvL_le : ∀ s : (List UInt8), ∀ x ∈ hvL s, x ≤ 15
  | [], _, h => by simp [hvL] at h
  | b :: s, x, h => by
    have hb := b256 b
    simp only [hvL, List.flatMap_cons, List.mem_append, List.mem_cons, List.not_mem_nil, or_false] at h
    rcases h with (rfl | rfl) | h
    · omega
    · omega
    · exact hvL_le s x h
theorem digL_le {s : (List UInt8)} (h : s.length = 32) : ∀ x ∈ digL s, x ≤ 15 := by
  have h1 := lackL_le s
  intro x hx
  rw [digL, List.mem_append] at hx
  rcases hx with hx | hx
  · exact hvL_le s x hx
  · simp only [List.mem_cons, List.not_mem_nil, or_false] at hx
    rcases hx with rfl | rfl | rfl <;> omega
theorem lack_mono : ∀ (a b : (List UInt8)), a.length = b.length → (∀ i (h : i < a.length) (h' : i < b.length), b[i].toNat / 16 ≤ a[i].toNat / 16 ∧ b[i].toNat % 16 ≤ a[i].toNat % 16) → lackL a ≤ lackL b ∧ (lackL a = lackL b → a = b)
  | [], [], _, _ => ⟨Nat.le_refl _, fun _ => rfl⟩
  | [], _ :: _, h, _ => by simp at h
  | _ :: _, [], h, _ => by simp at h
  | x :: a, y :: b, h, hi => by
    obtain ⟨h1, h2⟩ := lack_mono a b (by simpa using h) (fun i h h' => by
      have := hi (i + 1) (by simpa using h) (by simpa using h')
      simpa using this)
    have h0 := hi 0 (by simp) (by simp)
    simp only [List.getElem_cons_zero] at h0
    have hx := b256 x
    have hy := b256 y
    rw [lackL_cons, lackL_cons]
    refine ⟨by omega, fun he => ?_⟩
    have hxy : x.toNat = y.toNat := by omega
    rw [h2 (by omega), UInt8.toNat_inj.1 hxy]
/-- of two unlike digests there is a digit that is less -/
theorem dig_less {a b : (List UInt8)} (la : a.length = 32) (lb : b.length = 32) (hne : a ≠ b) : ∃ i, i < 67 ∧ ∃ x y, (digL a)[i]? = some x ∧ (digL b)[i]? = some y ∧ x < y := by
  refine Classical.byContradiction fun hno => ?_
  have hall : ∀ i x y, i < 67 → (digL a)[i]? = some x → (digL b)[i]? = some y → y ≤ x := by
    intro i x y hi hx hy
    refine Nat.le_of_not_lt fun hlt => hno ⟨i, hi, x, y, hx, hy, hlt⟩
  obtain ⟨h1, h2⟩ := lack_mono a b (by omega) (fun i h h' => by
    have ha := digL_at la i (by omega)
    have hb := digL_at lb i (by omega)
    exact ⟨hall _ _ _ (by omega) ha.1 hb.1, hall _ _ _ (by omega) ha.2 hb.2⟩)
  have ta := digL_top la
  have tb := digL_top lb
  have g1 := hall _ _ _ (by omega) ta.1 tb.1
  have g2 := hall _ _ _ (by omega) ta.2.1 tb.2.1
  have g3 := hall _ _ _ (by omega) ta.2.2 tb.2.2
  have l1 := lackL_le a
  have l2 := lackL_le b
  exact hne (h2 (by omega))

/-- a step of a chain; a walk of n steps -/
def chainT : (List UInt8) := [99, 104, 97, 105, 110]
def stepF (i j : Nat) (x : (List UInt8)) : (List UInt8) := hashL chainT [[UInt8.ofNat i], [UInt8.ofNat j], x]
def walkF (i a : Nat) : Nat → (List UInt8) → (List UInt8)
  | 0, x => x
  | n + 1, x => stepF i (a + n) (walkF i a n x)
theorem walkF_add (i a m : Nat) (x : (List UInt8)) : ∀ n, walkF i (a + m) n (walkF i a m x) = walkF i a (m + n) x
  | 0 => rfl
  | n + 1 => by rw [walkF, walkF_add i a m x n, ← Nat.add_assoc m, walkF, Nat.add_assoc]
/-- what Walk answers -/
def walkV (i a b : Int) (x : (List UInt8)) : (List UInt8) := if 0 ≤ i ∧ i ≤ 66 ∧ 0 ≤ a ∧ a ≤ b ∧ b ≤ 15 then walkF i.toNat a.toNat (b.toNat - a.toNat) x else []
theorem walkV_nat (i a b : Nat) (x : (List UInt8)) (hi : i ≤ 66) (ha : a ≤ b) (hb : b ≤ 15) : walkV i a b x = walkF i a (b - a) x := by
  rw [walkV, if_pos (by omega)]; rfl
theorem walkV_two (i a b c : Nat) (x : (List UInt8)) (hi : i ≤ 66) (ha : a ≤ b) (hb : b ≤ c) (hc : c ≤ 15) : walkV i b c (walkV i a b x) = walkV i a c x := by
  rw [walkV_nat i b c _ hi hb hc, walkV_nat i a b _ hi ha (by omega), walkV_nat i a c _ hi (by omega) hc]
  have := walkF_add i a (b - a) x (c - b)
  rw [show a + (b - a) = b by omega, show b - a + (c - b) = c - a by omega] at this
  exact this
theorem walkV_self (i a : Nat) (x : (List UInt8)) (hi : i ≤ 66) (ha : a ≤ 15) : walkV i a a x = x := by
  rw [walkV_nat i a a x hi (Nat.le_refl _) ha, Nat.sub_self]; rfl
theorem walkV_last (i a c : Nat) (x : (List UInt8)) (hi : i ≤ 66) (ha : a < c) (hc : c ≤ 15) : walkV i a c x = stepF i (c - 1) (walkV i a (c - 1 : Nat) x) := by
  rw [walkV_nat i a c x hi (by omega) hc, walkV_nat i a (c - 1) x hi (by omega) (by omega), show c - a = (c - 1 - a) + 1 by omega, walkF, show a + (c - 1 - a) = c - 1 by omega]
theorem walkF_len (i a : Nat) (x : (List UInt8)) (hx : x.length ≤ 10000000) : ∀ n, (walkF i a n x).length ≤ 10000000
  | 0 => hx
  | n + 1 => by
    rw [walkF, stepF]
    have := hashL_len chainT [[UInt8.ofNat i], [UInt8.ofNat (a + n)], walkF i a n x]
    omega
theorem walkV_len (i a b : Int) (x : (List UInt8)) (hx : x.length ≤ 10000000) : (walkV i a b x).length ≤ 10000000 := by
  unfold walkV
  split
  · exact walkF_len _ _ _ hx _
  · simp
/-- a row of digits in memory -/
def Ints (ao : Option Addr) (L : List Nat) (w : World) : Prop := L = [] ∨ ∃ b off, ao = some ⟨b, off, none⟩ ∧ b < w.heap.size ∧ ∀ i (h : i < L.length), w.cell? ⟨b, off + i, none⟩ = some (.int .i64 (L[i] : Int))
theorem Ints.next {ao : Option Addr} {L : List Nat} {w w' : World} (h : Ints ao L w) (hb : Below w.heap.size w w') : Ints ao L w' := by
  rcases h with h | ⟨b, off, h1, h2, h3⟩
  · exact .inl h
  · exact .inr ⟨b, off, h1, by have := hb.size; omega, fun i hi => (World.cell?_of_block (a := ⟨b, off + i, none⟩) (hb.block b h2)).trans (h3 i hi)⟩
theorem Ints.at {ao : Option Addr} {L : List Nat} {w : World} {k : Nat} (h : Ints ao L w) (hk : k < L.length) : ∃ b off, ao = some ⟨b, off, none⟩ ∧ w.cell? ⟨b, off + k, none⟩ = some (.int .i64 (L[k] : Int)) := by
  rcases h with rfl | ⟨b, off, h1, h2, h3⟩
  · simp at hk
  · exact ⟨b, off, h1, h3 k hk⟩
/-- a byte laid as a text of one -/
theorem conv_one (n : Nat) (hn : n < 256) (w : World) : (convert 31 9 (.slice (some ⟨w.heap.size, 0, none⟩) 1 1)).run Tryd.prog (w.alloc (.cells #[.int .u8 (n : Int)] 5)) = .ok (.string ⟨#[UInt8.ofNat n]⟩) (w.alloc (.cells #[.int .u8 (n : Int)] 5)) := by
  have h := run_convert_bytes_back (P := Tryd.prog) (w.alloc (.cells #[.int .u8 (n : Int)] 5)) 31 9 5 ⟨w.heap.size, 0, none⟩ 1 [UInt8.ofNat n] Tryd.underlying31 Tryd.underlying5 Tryd.underlying9 (oneByte w _ _ (by have h1 := byte_mod n; omega))
  simpa using h
theorem hash3_any (tag x y z : (List UInt8)) (wz : World) (hg : Glob wz) (ht : tag.length ≤ 16) (hx : x.length ≤ 10000000) (hy : y.length ≤ 10000000) (hz : z.length ≤ 10000000) : Calls Tryd.prog 15 #[.string ⟨tag.toArray⟩, .slice (some ⟨wz.heap.size, 0, none⟩) 3 3] (wz.alloc (.cells #[.string ⟨x.toArray⟩, .string ⟨y.toArray⟩, .string ⟨z.toArray⟩] 9)) fun e w' => e = .returned (.string ⟨(hashL tag [x, y, z]).toArray⟩) ∧ Below wz.heap.size wz w' := by
  refine (hash_any tag (some ⟨wz.heap.size, 0, none⟩) 3 [x, y, z] _ (hg.below hg.size (by0 wz _)) (strs_new wz [x, y, z] _ rfl) (by unfold maxLen; omega) (Nat.lt_of_lt_of_le (framed_short tag [x, y, z] ht (by intro u hu; simp at hu; rcases hu with rfl | rfl | rfl <;> assumption) (by simp)) (by decide))).mono ?_
  rintro e w' ⟨h1, h2⟩
  exact ⟨h1, below_next (by0 wz _) h2⟩
theorem hash3_at (tag x y z : (List UInt8)) (wz : World) (sz : Nat) (hsz : sz = wz.heap.size) (hg : Glob wz) (ht : tag.length ≤ 16) (hx : x.length ≤ 10000000) (hy : y.length ≤ 10000000) (hz : z.length ≤ 10000000) : Calls Tryd.prog 15 #[.string ⟨tag.toArray⟩, .slice (some ⟨sz, 0, none⟩) 3 3] (wz.alloc (.cells #[.string ⟨x.toArray⟩, .string ⟨y.toArray⟩, .string ⟨z.toArray⟩] 9)) fun e w' => e = .returned (.string ⟨(hashL tag [x, y, z]).toArray⟩) ∧ Below wz.heap.size wz w' := by
  subst hsz
  exact hash3_any tag x y z wz hg ht hx hy hz
end Go.Proofs.YtdobmhbfadijoaaDoor
