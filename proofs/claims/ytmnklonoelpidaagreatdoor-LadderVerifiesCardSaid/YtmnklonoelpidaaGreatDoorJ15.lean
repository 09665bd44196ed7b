/- The sort's own rounds: what is left to be put in order. -/
import Derived.Test.YtmnklonoelpidaaGreatDoorJ14
namespace Go.Proofs.YtmnklonoelpidaaGreatDoor
open Go.RowKit Go.Sort

/-- of d, to be put in order from lo to hi, there is left dk, from a to b -/
structure Pd (lo hi : Nat) (d : Array Nat) (a b : Nat) (dk : Array Nat) : Prop where
  la : lo ≤ a
  ab : a ≤ b
  bh : b ≤ hi
  hs : hi ≤ dk.size
  perm : PermIn lo hi d dk
  low : Low a b dk
  fin : ∀ e, PermIn a b dk e → Srt a b e → Srt lo hi e
theorem Pd.start {lo hi : Nat} {d : Array Nat} (h : lo ≤ hi) (hs : hi ≤ d.size) (hl : Low lo hi d) : Pd lo hi d lo hi d := ⟨Nat.le_refl _, h, Nat.le_refl _, hs, permIn_refl _ _ _, hl, fun _ _ h => h⟩
theorem Low.perm' {a b : Nat} {dk e : Array Nat} (h : Low a b dk) (hb : b ≤ dk.size) (hp : PermIn a b dk e) : Low a b e := by
  rcases h with h | h
  · exact .inl h
  · by_cases h0 : a = 0
    · exact .inl h0
    · refine .inr ?_
      rw [hp.2.1 (a - 1) (.inl (by omega))]
      exact permIn_all dk e a b (fun x => dk[a - 1]! ≤ x) hb hp h
theorem Pd.step {lo hi a b : Nat} {d dk e : Array Nat} (h : Pd lo hi d a b dk) (hp : PermIn a b dk e) : Pd lo hi d a b e := by
  have h1 := h.la; have h2 := h.ab; have h3 := h.bh; have h4 := h.hs
  exact ⟨h1, h2, h3, by rw [hp.1]; exact h4, permIn_trans _ _ _ _ _ h.perm (permIn_mono _ _ _ _ _ _ h1 h3 h4 hp), h.low.perm' (by omega) hp, fun e' he hs => h.fin e' (permIn_trans _ _ _ _ _ hp he) hs⟩
theorem Pd.done {lo hi a b : Nat} {d dk e : Array Nat} (h : Pd lo hi d a b dk) (hp : PermIn a b dk e) (hs : Srt a b e) : PermIn lo hi d e ∧ Srt lo hi e :=
  ⟨permIn_trans _ _ _ _ _ h.perm (permIn_mono _ _ _ _ _ _ h.la h.bh h.hs hp), h.fin e hp hs⟩
/-- in order on both sides of m, and those on the left no more, those on the right no less -/
theorem srt_glue {a m b : Nat} {e : Array Nat} (hm : a ≤ m) (hl : Srt a m e) (hr : Srt (m + 1) b e) (h1 : ∀ t, a ≤ t → t < m → e[t]! ≤ e[m]!) (h2 : ∀ t, m < t → t < b → e[m]! ≤ e[t]!) : Srt a b e := by
  intro p q hp hpq hq
  rcases Nat.lt_trichotomy q m with c | c | c
  · exact hl p q hp hpq c
  · subst c; exact h1 p hp hpq
  · rcases Nat.lt_trichotomy p m with c2 | c2 | c2
    · exact Nat.le_trans (h1 p hp c2) (h2 q c hq)
    · subst c2; exact h2 q c hq
    · exact hr p q (by omega) hpq hq
theorem Pd.left {lo hi a b m : Nat} {d dk e e2 : Array Nat} (h : Pd lo hi d a b dk) (h1 : a ≤ m) (h2 : m < b) (hp : PermIn a b dk e) (hl : ∀ t, a ≤ t → t < m → e[t]! < e[m]!) (hr : ∀ t, m < t → t < b → e[m]! ≤ e[t]!)
    (hp2 : PermIn a m e e2) (hs2 : Srt a m e2) : Pd lo hi d (m + 1) b e2 := by
  have q1 := h.la; have q2 := h.bh; have q3 := h.hs
  have z1 : e.size = dk.size := hp.1
  have z2 : e2.size = dk.size := hp2.1.trans z1
  have hb2 : PermIn a b dk e2 := permIn_trans _ _ _ _ _ hp (permIn_mono _ _ _ _ _ _ (Nat.le_refl _) (by omega) (by omega) hp2)
  have ho : ∀ t, m ≤ t → e2[t]! = e[t]! := fun t ht => hp2.2.1 t (.inr ht)
  have hl2 : ∀ t, a ≤ t → t < m → e2[t]! ≤ e2[m]! := by
    rw [ho m (Nat.le_refl _)]
    exact permIn_all e e2 a m (fun x => x ≤ e[m]!) (by omega) hp2 (fun t t1 t2 => Nat.le_of_lt (hl t t1 t2))
  have hr2 : ∀ t, m < t → t < b → e2[m]! ≤ e2[t]! := fun t t1 t2 => by rw [ho m (Nat.le_refl _), ho t (by omega)]; exact hr t t1 t2
  refine ⟨by omega, by omega, q2, by omega, (h.step hb2).perm, .inr fun t t1 t2 => ?_, fun e3 he hs => h.fin e3 (permIn_trans _ _ _ _ _ hb2 (permIn_mono _ _ _ _ _ _ (by omega) (Nat.le_refl _) (by omega) he)) ?_⟩
  · rw [show m + 1 - 1 = m by omega]; exact hr2 t (by omega) t2
  · have ho3 : ∀ t, t ≤ m → e3[t]! = e2[t]! := fun t ht => he.2.1 t (.inl (by omega))
    refine srt_glue h1 (fun p q p1 pq q1' => by rw [ho3 p (by omega), ho3 q (by omega)]; exact hs2 p q p1 pq q1') hs (fun t t1 t2 => by rw [ho3 t (by omega), ho3 m (Nat.le_refl _)]; exact hl2 t t1 t2) ?_
    rw [ho3 m (Nat.le_refl _)]
    exact fun t t1 t2 => permIn_all e2 e3 (m + 1) b (fun x => e2[m]! ≤ x) (by omega) he (fun t t1 t2 => hr2 t (by omega) t2) t (by omega) t2
theorem Pd.right {lo hi a b m : Nat} {d dk e e2 : Array Nat} (h : Pd lo hi d a b dk) (h1 : a ≤ m) (h2 : m < b) (hp : PermIn a b dk e) (hl : ∀ t, a ≤ t → t < m → e[t]! < e[m]!) (hr : ∀ t, m < t → t < b → e[m]! ≤ e[t]!)
    (hp2 : PermIn (m + 1) b e e2) (hs2 : Srt (m + 1) b e2) : Pd lo hi d a m e2 := by
  have q1 := h.la; have q2 := h.bh; have q3 := h.hs
  have z1 : e.size = dk.size := hp.1
  have z2 : e2.size = dk.size := hp2.1.trans z1
  have hb2 : PermIn a b dk e2 := permIn_trans _ _ _ _ _ hp (permIn_mono _ _ _ _ _ _ (by omega) (Nat.le_refl _) (by omega) hp2)
  have ho : ∀ t, t ≤ m → e2[t]! = e[t]! := fun t ht => hp2.2.1 t (.inl (by omega))
  have hl2 : ∀ t, a ≤ t → t < m → e2[t]! ≤ e2[m]! := fun t t1 t2 => by rw [ho m (Nat.le_refl _), ho t (by omega)]; exact Nat.le_of_lt (hl t t1 t2)
  have hr2 : ∀ t, m < t → t < b → e2[m]! ≤ e2[t]! := by
    rw [ho m (Nat.le_refl _)]
    exact fun t t1 t2 => permIn_all e e2 (m + 1) b (fun x => e[m]! ≤ x) (by omega) hp2 (fun t t1 t2 => hr t (by omega) t2) t (by omega) t2
  have hlow := (h.step hb2).low
  refine ⟨q1, h1, by omega, by omega, (h.step hb2).perm, ?_, fun e3 he hs => h.fin e3 (permIn_trans _ _ _ _ _ hb2 (permIn_mono _ _ _ _ _ _ (Nat.le_refl _) (by omega) (by omega) he)) ?_⟩
  · rcases hlow with c | c
    · exact .inl c
    · exact .inr fun t t1 t2 => c t t1 (by omega)
  · have ho3 : ∀ t, m ≤ t → e3[t]! = e2[t]! := fun t ht => he.2.1 t (.inr ht)
    refine srt_glue h1 hs (fun p q p1 pq q1' => by rw [ho3 p (by omega), ho3 q (by omega)]; exact hs2 p q p1 pq q1') ?_ (fun t t1 t2 => by rw [ho3 t (by omega), ho3 m (Nat.le_refl _)]; exact hr2 t t1 t2)
    rw [ho3 m (Nat.le_refl _)]
    exact permIn_all e2 e3 a m (fun x => x ≤ e2[m]!) (by omega) he hl2
/-- what a call for one side is to be given -/
theorem low_left {a b m : Nat} {dk e : Array Nat} (hl : Low a b dk) (h2 : m < b) (hb : b ≤ dk.size) (hp : PermIn a b dk e) : Low a m e := by
  rcases hl.perm' hb hp with c | c
  · exact .inl c
  · exact .inr fun t t1 t2 => c t t1 (by omega)
theorem low_right {b m : Nat} {e : Array Nat} (hr : ∀ t, m < t → t < b → e[m]! ≤ e[t]!) : Low (m + 1) b e := .inr fun t t1 t2 => by rw [show m + 1 - 1 = m by omega]; exact hr t (by omega) t2
/-- those that are as the pivot are in order already -/
theorem Pd.eq {lo hi a b m p : Nat} {d dk e : Array Nat} (h : Pd lo hi d a b dk) (h0 : 0 < a) (hp : p ≤ dk[a - 1]!) (hP : Prt (leP p) a b p dk m (m - 1) e) : a < m ∧ m ≤ b ∧ Pd lo hi d m b e := by
  have q1 := h.la; have q2 := h.bh; have q3 := h.hs
  have l1 := hP.li; have l2 := hP.jh
  have z1 : e.size = dk.size := hP.perm.1
  have hge : ∀ t, a ≤ t → t < b → p ≤ e[t]! := by
    refine permIn_all dk e a b (fun x => p ≤ x) (by omega) hP.perm fun t t1 t2 => ?_
    rcases h.low with c | c
    · omega
    · exact Nat.le_trans hp (c t t1 t2)
  have heq : ∀ t, a ≤ t → t < m → e[t]! = p := by
    intro t t1 t2
    by_cases c : t = a
    · subst c; exact hP.piv
    · have g1 := hP.left t (by omega) t2
      have g2 := hge t t1 (by omega)
      simp [leP] at g1
      omega
  have hgt : ∀ t, m ≤ t → t < b → p < e[t]! := by
    intro t t1 t2
    have g1 := hP.right t (by omega) t2
    simpa [leP] using g1
  refine ⟨l1, by omega, by omega, by omega, q2, by omega, (h.step hP.perm).perm, .inr fun t t1 t2 => ?_, fun e3 he hs => h.fin e3 (permIn_trans _ _ _ _ _ hP.perm (permIn_mono _ _ _ _ _ _ (by omega) (Nat.le_refl _) (by omega) he)) ?_⟩
  · rw [heq (m - 1) (by omega) (by omega)]; exact Nat.le_of_lt (hgt t t1 t2)
  · have ho3 : ∀ t, t < m → e3[t]! = e[t]! := fun t ht => he.2.1 t (.inl ht)
    have hgt3 := permIn_all e e3 m b (fun x => p < x) (by omega) he hgt
    intro x y x1 xy y1
    by_cases cy : y < m
    · rw [ho3 x (by omega), ho3 y cy, heq x x1 (by omega), heq y (by omega) cy]; exact Nat.le_refl _
    · by_cases cx : x < m
      · rw [ho3 x cx, heq x x1 cx]; exact Nat.le_of_lt (hgt3 y (by omega) y1)
      · exact hs x y (by omega) xy y1
end Go.Proofs.YtmnklonoelpidaaGreatDoor
