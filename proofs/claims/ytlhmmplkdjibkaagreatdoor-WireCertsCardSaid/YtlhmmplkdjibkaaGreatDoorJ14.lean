/- What a field's laying does, by its kind; a row's bytes as a map. -/
import Derived.Test.YtlhmmplkdjibkaaGreatDoorJ13
import Derived.Test.YtlhmmplkdjibkaaGreatDoorJ9
import Derived.Test.YtlhmmplkdjibkaaGreatDoorJ1
namespace Go.Proofs.YtlhmmplkdjibkaaGreatDoor
open Go.RowKit

theorem Sta.blk {B : Nat} {w0 w : World} {k : Nat} {cs : Array Value} {t : TypeId} (h : Sta B w0 w) (hk : w0.heap[k]? = some (.cells cs t (0, 0))) (h5 : t ≠ 5) (hw : t ≠ 165) : w.heap[k]? = some (.cells cs t (0, 0)) := h.k k _ hk (not_wild h5 hw)
theorem kCell {w : World} {k : Nat} {v : Value} {ty : TypeId} (h : w.heap[k]? = some (.cells #[v] ty (0, 0))) : w.cell? ⟨k, 0, none⟩ = some v := (lit_cell h 0).trans rfl

def numLD (n : Nat) : LD := ⟨n != 0, true, numP n, 9⟩
def digLD (s : (List UInt8)) : LD := ⟨!s.isEmpty, digB s, binP s, 35⟩
def yesLD (b : Bool) : LD := ⟨b, true, numP 1, 9⟩
def strsLD (l : List (List UInt8)) (most : Nat) : LD := ⟨decide (0 < l.length), decide (l.length ≤ most) && l.all digB, headP 3 l.length ++ l.flatMap binP, 3 + most * 35⟩
def numsLD (l : List Nat) (most : Nat) : LD := ⟨decide (0 < l.length), decide (l.length ≤ most) && l.all (fun _ => true), headP 3 l.length ++ l.flatMap numP, 3 + most * 9⟩

theorem binP_len {s : (List UInt8)} (h : digB s = true) : (binP s).length ≤ 35 := by
  have hl : s.length = 32 := by simpa [digB] using h
  have := headP_len 1 s.length
  rw [binP, List.length_append]
  omega
/-- what a cell of a thing holds, whatever a writer does -/
def Holds (B : Nat) (w0 : World) (t o : Nat) (v : Value) : Prop := ∀ w, Sta B w0 w → w.cell? ⟨t, o, none⟩ = some v
theorem lay_num {B : Nat} {w0 : World} {lo k t o n : Nat} {c : UInt8} (hk : New lo k (.pointer (some ⟨t, o, none⟩)) 117 w0) (hv : Holds B w0 t o (.int .u64 (n : Int))) (hn : n < 18446744073709551616) : LayF B w0 (numFV c k) (numLD n) where
  t := ⟨fun _ _ => by kernel_rfl, fun w hw => number1_any k t o n w (kCell (hw.blk hk.2 (by decide) (by decide))) (hv w hw), fun _ _ h hb => h.next hb⟩
  ent := fun _ _ => by kernel_rfl
  len := fun _ _ => numP_len n
  c := fun _ w b L hw hW hL => number2_any B b L k t o n w hW (kCell (hw.blk hk.2 (by decide) (by decide))) (hv w hw) hn hL
theorem lay_dig {B : Nat} {w0 : World} {lo k t o : Nat} {s : (List UInt8)} {c : UInt8} (hk : New lo k (.pointer (some ⟨t, o, none⟩)) 110 w0) (hv : Holds B w0 t o (.string ⟨s.toArray⟩)) : LayF B w0 (digFV c k) (digLD s) where
  t := ⟨fun _ _ => by kernel_rfl, fun w hw => digest1_any k t o s w (kCell (hw.blk hk.2 (by decide) (by decide))) (hv w hw), fun _ _ h hb => h.next hb⟩
  ent := fun _ _ => by kernel_rfl
  len := fun _ h => binP_len h
  c := fun _ w b L hw hW hL => digest2_any B b L k t o s w hW (kCell (hw.blk hk.2 (by decide) (by decide))) (hv w hw) hL
theorem lay_yes {B : Nat} {w0 : World} {lo k t o : Nat} {b : Bool} {c : UInt8} (hk : New lo k (.pointer (some ⟨t, o, none⟩)) 230 w0) (hv : Holds B w0 t o (.bool b)) : LayF B w0 (yesFV c k) (yesLD b) where
  t := ⟨fun _ _ => by kernel_rfl, fun w hw => yes1_any k t o b w (kCell (hw.blk hk.2 (by decide) (by decide))) (hv w hw), fun _ _ h hb => h.next hb⟩
  ent := fun _ _ => by kernel_rfl
  len := fun _ _ => numP_len 1
  c := fun _ w b L _ hW hL => yes2_any B b L w hW hL
/-- a list in memory, whatever a writer does -/
def HoldsL {α : Type} (B : Nat) (w0 : World) (enc : α → Value) (l : List α) (ao : Option Addr) : Prop := l = [] ∨ ∃ bb off, ao = some ⟨bb, off, none⟩ ∧ ∀ w, Sta B w0 w → ∀ i x, l[i]? = some x → w.cell? ⟨bb, off + i, none⟩ = some (enc x)
theorem lay_strs {B : Nat} {w0 : World} {lo N t o most cp : Nat} {l : List (List UInt8)} {ao : Option Addr} {c : UInt8} (hk : NewS lo N t o most w0) (hv : Holds B w0 t o (.slice ao l.length cp)) (hl : HoldsL B w0 (fun s : (List UInt8) => .string ⟨s.toArray⟩) l ao) (hn : l.length ≤ 9223372036854775807) (hm : most ≤ 10240) : LayF B w0 (listSFV c N) (strsLD l most) where
  t := ⟨fun _ _ => by kernel_rfl, fun w hw => listS1_any N t o l.length cp ao w (kCell (hw.blk hk.2.a (by decide) (by decide))) (hv w hw), fun _ _ h hb => h.next hb⟩
  ent := fun _ _ => by kernel_rfl
  len := fun _ h => by
    simp only [strsLD, Bool.and_eq_true, decide_eq_true_eq] at h ⊢
    have h1 := lists_len binP digB 35 (fun _ h => binP_len h) l h.2
    have h2 := headP_len 3 l.length
    have h3 := Nat.mul_le_mul_right 35 h.1
    rw [List.length_append]
    omega
  c := fun ht w b L hw hW hL => by
    rcases hl with rfl | ⟨bb, off, rfl, hc⟩
    · cases ht
    · exact listS2_any B b N (N + 1) (N + 1 + 1) t o 92 most #[] l bb off cp L w0 w binP digB 35 (fun _ h => binP_len h) (fun _ _ => by kernel_rfl) hw hW (fun w1 h1 => ⟨kCell (h1.blk hk.2.a (by decide) (by decide)), kCell (h1.blk hk.2.m (by decide) (by decide)), kCell (h1.blk hk.2.l (by decide) (by decide)), hv w1 h1⟩) hc hn hm hL (fun x _ w1 L1 _ hW1 hL1 => layDigest_any B b L1 x w1 hW1 (by omega))
theorem lay_nums {B : Nat} {w0 : World} {lo N t o most cp : Nat} {l : List Nat} {ao : Option Addr} {c : UInt8} (hk : NewN lo N t o most w0) (hv : Holds B w0 t o (.slice ao l.length cp)) (hl : HoldsL B w0 (fun n : Nat => .int .u64 (n : Int)) l ao) (hx : ∀ x ∈ l, x < 18446744073709551616) (hn : l.length ≤ 9223372036854775807) (hm : most ≤ 10240) : LayF B w0 (listNFV c N) (numsLD l most) where
  t := ⟨fun _ _ => by kernel_rfl, fun w hw => listN1_any N t o l.length cp ao w (kCell (hw.blk hk.2.a (by decide) (by decide))) (hv w hw), fun _ _ h hb => h.next hb⟩
  ent := fun _ _ => by kernel_rfl
  len := fun _ h => by
    simp only [numsLD, Bool.and_eq_true, decide_eq_true_eq] at h ⊢
    have h1 := lists_len numP (fun _ => true) 9 (fun x _ => numP_len x) l h.2
    have h2 := headP_len 3 l.length
    have h3 := Nat.mul_le_mul_right 9 h.1
    rw [List.length_append]
    omega
  c := fun ht w b L hw hW hL => by
    rcases hl with rfl | ⟨bb, off, rfl, hc⟩
    · cases ht
    · exact listN2_any B b N (N + 1) (N + 1 + 1) t o 99 most #[] l bb off cp L w0 w numP (fun _ => true) 9 (fun x _ => numP_len x) (fun _ _ => by kernel_rfl) hw hW (fun w1 h1 => ⟨kCell (h1.blk hk.2.a (by decide) (by decide)), kCell (h1.blk hk.2.m (by decide) (by decide)), kCell (h1.blk hk.2.l (by decide) (by decide)), hv w1 h1⟩) ⟨hx, hc⟩ hn hm hL (fun x hxl w1 L1 _ hW1 hL1 => layNumber_any B b L1 x w1 hW1 (hx x hxl) (by omega))
end Go.Proofs.YtlhmmplkdjibkaaGreatDoor
/- A row of fields, as a map that is laid; a thing as a field. -/
namespace Go.Proofs.YtlhmmplkdjibkaaGreatDoor
open Go.RowKit

def dOf (ps : List (FV × LD)) (f : FV) : LD := match ps.find? (fun p => p.1.key == f.key) with
  | some p => p.2
  | none => ⟨false, true, [], 0⟩
def toldP (p : FV × LD) : Bool := p.1.needed || p.2.th
def psP (ps : List (FV × LD)) : List (UInt8 × (List UInt8)) := ps.map fun p => (p.1.key, if toldP p then p.2.bytes else [])
def psOk (ps : List (FV × LD)) : Bool := ps.all fun p => !toldP p || p.2.ok
def psMx (ps : List (FV × LD)) : Nat := 3 + (ps.map fun p => 2 + p.2.mx).sum
theorem find_ps : ∀ (ps : List (FV × LD)), ps.Pairwise (fun p q => p.1.key ≠ q.1.key) → ∀ p ∈ ps, ps.find? (fun q => q.1.key == p.1.key) = some p
  | [], _, p, hp => by cases hp
  | q :: ps, h, p, hp => by
    rw [List.pairwise_cons] at h
    rcases List.mem_cons.1 hp with rfl | hp
    · simp
    · rw [List.find?_cons_of_neg]
      · exact find_ps ps h.2 p hp
      · simpa using h.1 p hp
theorem dOf_eq {ps : List (FV × LD)} (h : ps.Pairwise (fun p q => p.1.key ≠ q.1.key)) {p : FV × LD} (hp : p ∈ ps) : dOf ps p.1 = p.2 := by rw [dOf, find_ps ps h p hp]
theorem filter_congr' {α : Type _} {p q : α → Bool} : ∀ {l : List α}, (∀ x ∈ l, p x = q x) → l.filter p = l.filter q
  | [], _ => rfl
  | x :: l, h => by rw [List.filter_cons, List.filter_cons, h x (by simp), filter_congr' fun y hy => h y (by simp [hy])]
theorem all_congr' {α : Type _} {p q : α → Bool} : ∀ {l : List α}, (∀ x ∈ l, p x = q x) → l.all p = l.all q
  | [], _ => rfl
  | x :: l, h => by rw [List.all_cons, List.all_cons, h x (by simp), all_congr' fun y hy => h y (by simp [hy])]
theorem flatMap_congr' {α β : Type _} {p q : α → List β} : ∀ {l : List α}, (∀ x ∈ l, p x = q x) → l.flatMap p = l.flatMap q
  | [], _ => rfl
  | x :: l, h => by rw [List.flatMap_cons, List.flatMap_cons, h x (by simp), flatMap_congr' fun y hy => h y (by simp [hy])]
theorem map_congr' {α β : Type _} {p q : α → β} : ∀ {l : List α}, (∀ x ∈ l, p x = q x) → l.map p = l.map q
  | [], _ => rfl
  | x :: l, h => by rw [List.map_cons, List.map_cons, h x (by simp), map_congr' fun y hy => h y (by simp [hy])]
theorem told_ps {ps : List (FV × LD)} (h : ps.Pairwise (fun p q => p.1.key ≠ q.1.key)) : toldL (dOf ps) (ps.map (·.1)) = (ps.filter toldP).map (·.1) := by
  rw [toldL, List.filter_map]
  congr 1
  exact filter_congr' fun p hp => by show (p.1.needed || (dOf ps p.1).th) = _; rw [dOf_eq h hp]; rfl
theorem prs_ps {ps : List (FV × LD)} (hne : ∀ p ∈ ps, p.2.bytes ≠ []) : prs (psP ps) = (ps.filter toldP).map fun p => (p.1.key, p.2.bytes) := by
  induction ps with
  | nil => rfl
  | cons p ps ih =>
    have ih := ih fun q hq => hne q (by simp [hq])
    rw [psP, List.map_cons, prs, List.filter_cons, List.filter_cons]
    rw [psP, prs] at ih
    cases ht : toldP p with
    | true =>
      have h1 := hne p (by simp)
      simp only [if_true]
      rw [if_pos (by simpa using h1), List.map_cons, ih]
    | false =>
      simp only [Bool.false_eq_true, if_false]
      rw [if_neg (by simp), ih]
theorem rowB_ps {ps : List (FV × LD)} (h : ps.Pairwise (fun p q => p.1.key ≠ q.1.key)) (hne : ∀ p ∈ ps, p.2.bytes ≠ []) : rowB (dOf ps) (ps.map (·.1)) = mapP (psP ps) := by
  rw [rowB, told_ps h, mapP, prsB, prs_ps hne, List.length_map, List.length_map, List.flatMap_map, List.flatMap_map]
  congr 1
  exact flatMap_congr' fun p hp => by
    show pairB (dOf ps) p.1 = _
    rw [pairB, dOf_eq h (List.mem_filter.1 hp).1]
theorem rowOk_ps {ps : List (FV × LD)} (h : ps.Pairwise (fun p q => p.1.key ≠ q.1.key)) : rowOk (dOf ps) (ps.map (·.1)) = psOk ps := by
  rw [rowOk, told_ps h, List.all_map, List.all_filter, psOk]
  exact all_congr' fun p hp => by
    show (!toldP p || (dOf ps p.1).ok) = _
    rw [dOf_eq h hp]
theorem rowMx_ps {ps : List (FV × LD)} (h : ps.Pairwise (fun p q => p.1.key ≠ q.1.key)) : rowMx (dOf ps) (ps.map (·.1)) = psMx ps := by
  rw [rowMx, psMx, List.map_map]
  congr 2
  exact map_congr' fun p hp => by
    show 2 + (dOf ps p.1).mx = _
    rw [dOf_eq h hp]
/-- what is wanted of a row that lays -/
structure Row (B : Nat) (w0 : World) (ps : List (FV × LD)) : Prop where
  f : ∀ p ∈ ps, LayF B w0 p.1 p.2
  ne : ∀ p ∈ ps, p.2.bytes ≠ []
  keys : ps.Pairwise (fun p q => p.1.key ≠ q.1.key)
  some : ps ≠ []
  few : ps.length ≤ 15
theorem Row.fd {B : Nat} {w0 : World} {ps : List (FV × LD)} (h : Row B w0 ps) : ∀ f ∈ ps.map (·.1), LayF B w0 f (dOf ps f) := fun f hf => by
  obtain ⟨p, hp, rfl⟩ := List.mem_map.1 hf
  rw [dOf_eq h.keys hp]
  exact h.f p hp
theorem layRow_ps {B : Nat} {w0 : World} {ps : List (FV × LD)} (h : Row B w0 ps) (rb o cap b : Nat) (L : (List UInt8)) (w : World) (hS : Sta B w0 w) (hW : Pk.Wr B b L w) (hr : RowB rb o (ps.map (·.1)) w) (hrb : rb < w.heap.size) (hL : L.length + psMx ps ≤ 9000000) :
    Calls Tryz.prog 45 #[.pointer (some ⟨b, 0, none⟩), .slice (some ⟨rb, o, none⟩) ps.length cap] w (Lays B b L (mapP (psP ps)) (psOk ps) w) := by
  have k := layRow_any B w0 (dOf ps) (ps.map (·.1)) h.fd rb o cap b L w hS hW hr hrb (by simpa using h.some) (by rw [List.length_map]; exact h.few) (by rw [rowMx_ps h.keys]; exact hL)
  rw [rowB_ps h.keys h.ne, rowOk_ps h.keys, List.length_map] at k
  exact k
theorem Row.len {B : Nat} {w0 : World} {ps : List (FV × LD)} (h : Row B w0 ps) (ho : psOk ps = true) : (mapP (psP ps)).length ≤ psMx ps := by
  rw [← rowB_ps h.keys h.ne, ← rowMx_ps h.keys, rowB, rowMx, List.length_append]
  have h1 := headP_len 4 (toldL (dOf ps) (ps.map (·.1))).length
  have h2 := sum_sub (dOf ps) (ps.map (·.1))
  rw [← rowOk_ps h.keys, rowOk] at ho
  have h3 := pairs_len (B := B) (w0 := w0) (dOf ps) (toldL (dOf ps) (ps.map (·.1))) (fun f hf => ⟨h.fd f (List.mem_filter.1 hf).1, (List.mem_filter.1 hf).2⟩) ho
  omega
theorem mapP_ne (fs : List (UInt8 × (List UInt8))) : mapP fs ≠ [] := by rw [mapP]; simp [headP_ne]

/-- a thing as a field -/
def thingLD (ps : List (FV × LD)) : LD := ⟨ps.any (fun p => p.2.th), psOk ps, mapP (psP ps), psMx ps⟩
set_option maxRecDepth 100000 in
theorem thing1_any {F : List FV} {val : FV → Bool} {Ok : World → Prop} (hT : ∀ f ∈ F, There f (val f) Ok) (hnx : ∀ w w', Ok w → Below w.heap.size w w' → Ok w') (k fb cp : Nat) (w : World) (hk : w.cell? ⟨k, 0, none⟩ = some (.slice (some ⟨fb, 0, none⟩) F.length cp)) (hr : RowB fb 0 F w) (hfb : fb < w.heap.size) (hn : F.length < 1000) (hok : Ok w) :
    Calls Tryz.prog 157 #[.pointer (some ⟨k, 0, none⟩)] w fun e w' => e = .returned (.bool (F.any val)) ∧ Below w.heap.size w w' := by
  have hP : Pred 158 #[] val F Ok := ⟨fun _ _ => by kernel_rfl, fun f hf w hw => thing11_any f (val f) Ok (hT f hf) w hw, hnx⟩
  have HC := Lib.hid (containsFunc_any hP fb 0 cp w hr hfb hn hok)
  generalize F.any val = q at *
  clear hP hT hnx hr hfb hn hok
  go_enter Tryz.func157, Tryz.ntmps157
  go_wp2_with (go_at_call 118; refine HC.out.mono ?_; rintro e w1 ⟨rfl, hb⟩)
  go_ret
  exact ⟨rfl, hb⟩
set_option maxRecDepth 100000 in
theorem thing2_any {B : Nat} {w0 : World} {ps : List (FV × LD)} (h : Row B w0 ps) (k fb cp b : Nat) (L : (List UInt8)) (w : World) (hk : w.cell? ⟨k, 0, none⟩ = some (.slice (some ⟨fb, 0, none⟩) ps.length cp)) (hS : Sta B w0 w) (hW : Pk.Wr B b L w) (hr : RowB fb 0 (ps.map (·.1)) w) (hfb : fb < w.heap.size) (hL : L.length + psMx ps ≤ 9000000) :
    Calls Tryz.prog 159 #[.pointer (some ⟨b, 0, none⟩), .pointer (some ⟨k, 0, none⟩)] w (Lays B b L (mapP (psP ps)) (psOk ps) w) := by
  have HC := Lib.hid (layRow_ps h fb 0 cp b L w hS hW hr hfb hL)
  clear hS hW hr hfb hL
  cases hd : psOk ps with
  | true =>
    rw [hd] at HC
    clear hd
    go_enter Tryz.func159, Tryz.ntmps159
    go_wp2_with (go_at_call 45; refine HC.out.mono ?_; rintro e w2 (⟨_, rfl, hw2, hb2⟩ | ⟨h, _⟩); rotate_left; (cases h))
    exact bodyPost_end (results_none rfl _ _ _) rfl (.inl ⟨rfl, rfl, hw2, hb2⟩)
  | false =>
    rw [hd] at HC
    clear hd
    go_enter Tryz.func159, Tryz.ntmps159
    go_wp2_with (go_at_call 45; refine HC.out.mono ?_; rintro e w2 (⟨h, _⟩ | ⟨_, ⟨f, hf, rfl, hf0, hf1⟩, hb1⟩); (cases h))
    exact ⟨rfl, .inr ⟨rfl, ⟨f, hf, rfl, hf0, hf1⟩, hb1⟩⟩
theorem lay_thing {B : Nat} {w0 : World} {ps : List (FV × LD)} {lo k fb : Nat} {c : UInt8} {nd : Bool} {lo2 : Nat} (hk : New lo k (.slice (some ⟨fb, 0, none⟩) ps.length ps.length) 60 w0) (hr : RowAt fb (ps.map (·.1)) w0) (h : Row B w0 ps) (_hl : lo2 ≤ fb) : LayF B w0 (thingFV c nd k) (thingLD ps) where
  t := ⟨fun _ _ => by kernel_rfl, fun w hw => by
    have e : (ps.map (·.1)).any (fun f => (dOf ps f).th) = ps.any (fun p => p.2.th) := by
      rw [List.any_map]
      exact any_congr fun p hp => by show (dOf ps p.1).th = _; rw [dOf_eq h.keys hp]
    show Calls _ _ _ _ fun e w' => e = .returned (.bool (ps.any fun p => p.2.th)) ∧ _
    rw [← e]
    have hr1 : RowAt fb (ps.map (·.1)) w := hw.blk hr (by decide) (by decide)
    exact thing1_any (fun f hf => (h.fd f hf).t) (fun _ _ h hb => h.next hb) k fb ps.length w (by rw [List.length_map]; exact kCell (hw.blk hk.2 (by decide) (by decide))) hr1.row (lit_lt hr1) (by rw [List.length_map]; have := h.few; omega) hw, fun _ _ h hb => h.next hb⟩
  ent := fun _ _ => by kernel_rfl
  len := fun _ ho => h.len ho
  c := fun _ w b L hw hW hL => by
    have hr1 : RowAt fb (ps.map (·.1)) w := hw.blk hr (by decide) (by decide)
    exact thing2_any h k fb ps.length b L w (kCell (hw.blk hk.2 (by decide) (by decide))) hw hW hr1.row (lit_lt hr1) hL
end Go.Proofs.YtlhmmplkdjibkaaGreatDoor
/- faultOf; lay: what recovers. -/
namespace Go.Proofs.YtlhmmplkdjibkaaGreatDoor
open Go.RowKit Go.Extern.Stop Go.Stop Go.Extern

set_option maxRecDepth 100000 in
set_option maxHeartbeats 4000000 in
theorem faultOf_any (f : Nat) (w : World) (hg : GlobE w) (_hf : f < w.heap.size) : Calls Tryz.prog 43 #[.iface 85 (.pointer (some ⟨f, 0, none⟩))] w fun e w' => e = .returned (.pointer (some ⟨f, 0, none⟩)) ∧ Below w.heap.size w w' := by
  have hgl : 0 < w.heap.size := World.block_lt_of_cell? w _ hg
  have hgA : (w.alloc (.cells #[.pointer none] 85)).cell? ⟨0, 0, none⟩ = some (.iface 203 (.agg #[.pointer (some ⟨4, 38, none⟩)])) := by
    rw [World.cell?_alloc_lt _ _ ⟨0, 0, none⟩ hgl]; exact hg
  have HA := Lib.hid ((as_hit ⟨f, 0, none⟩ ⟨w.heap.size, 0, none⟩ (.pointer none) (w.alloc (.cells #[.pointer none] 85)) hgA (by simp) (by simp)).mono (fun _ _ h => after_as (f := f) h))
  clear hgA hgl hg
  go_enter Tryz.func43, Tryz.ntmps43
  go_wp2_with (go_at_call 34; refine HA.out.mono ?_; rintro e w1 ⟨rfl, hw1, b1⟩; have HB1 := Lib.hid b1; clear b1)
  go_ret
  exact ⟨rfl, HB1.out⟩

set_option maxRecDepth 100000 in
set_option maxHeartbeats 4000000 in
theorem lay1_catch (f bv ev : Nat) (c : Int) (x y : Value) (older : List PanicEntry) (w : World) (hg : GlobE w) (h0 : w.cell? ⟨f, 0, none⟩ = some (.int .i64 c)) (hne : bv ≠ ev) (hbv : w.heap[bv]? = some (.cells #[x] 9 (0, 0))) (hev : w.heap[ev]? = some (.cells #[y] 32 (0, 0))) :
    CallsD Tryz.prog 42 #[.pointer (some ⟨bv, 0, none⟩), .pointer (some ⟨ev, 0, none⟩)] (.panicking ({ v := .iface 85 (.pointer (some ⟨f, 0, none⟩)), recovered := false } :: older)) w fun e u' w' =>
      e = .returned (.tuple #[]) ∧ u' = .panicking ({ v := .iface 85 (.pointer (some ⟨f, 0, none⟩)), recovered := true } :: older) ∧ ∃ w1, Below w.heap.size w w1 ∧ w' = (w1.setCell ⟨bv, 0, none⟩ (.string ⟨#[]⟩)).setCell ⟨ev, 0, none⟩ (.int .i64 c) := by
  have hfl : f < w.heap.size := World.block_lt_of_cell? w _ h0
  have HF := Lib.hid (faultOf_any f w hg hfl)
  have hta := to_error
  clear hg
  refine callsD_of_wpS Tryz.func42 rfl fun c₀ cs hu => ?_
  simp only [Tryz.ntmps42, List.size_toArray, List.length_cons, List.length_nil, Nat.reduceAdd, Nat.reduceSub, Array.replicate_succ, Array.replicate_zero, List.push_toArray, List.append_toArray, List.nil_append, List.cons_append]
  apply wpS_seq
  apply wpS_region
  simp [wpOpsS, go_sem, recoverD, hu, Exit.thenS, hta]
  refine wpS_of_wp ?_
  go_wp2_with (go_at_call 43; refine HF.out.mono ?_; rintro e w1 ⟨rfl, hb1⟩; have f0 := (hb1.cell (p := ⟨f, 0, none⟩) hfl).trans h0; have hb2 := (hb1.block bv (lit_lt hbv)).trans hbv; have he2 := (hb1.block ev (lit_lt hev)).trans hev; have x0 := (lit_cell hb2 0).trans rfl; have x1 := lit_free hb2 0; have y0 := (lit_cell he2 0).trans rfl; have y1 := lit_free he2 0)
  exact ⟨rfl, _, rfl, _, results_none rfl _ _ _, rfl, rfl, _, hb1, rfl⟩
set_option maxRecDepth 100000 in
set_option maxHeartbeats 4000000 in
theorem lay1_idle (bv ev : Nat) (w : World) :
    CallsD Tryz.prog 42 #[.pointer (some ⟨bv, 0, none⟩), .pointer (some ⟨ev, 0, none⟩)] .returning w fun e u' w' => e = .returned (.tuple #[]) ∧ u' = .returning ∧ w' = w := by
  have hta : ∀ w, (Instr.typeAssert .nilIface 20 38 true).run Tryz.prog w = .ok (.tuple #[.nilIface, .bool false]) w := fun w => by kernel_rfl
  refine callsD_of_wpS Tryz.func42 rfl fun c₀ cs hu => ?_
  simp only [Tryz.ntmps42, List.size_toArray, List.length_cons, List.length_nil, Nat.reduceAdd, Nat.reduceSub, Array.replicate_succ, Array.replicate_zero, List.push_toArray, List.append_toArray, List.nil_append, List.cons_append]
  apply wpS_seq
  apply wpS_region
  simp [wpOpsS, go_sem, recoverD, hu, Exit.thenS, hta]
  refine wpS_of_wp ?_
  go_wp2
  cases c₀
  simp only at hu
  subst hu
  exact ⟨rfl, _, rfl, _, results_none rfl _ _ _, rfl, rfl, rfl⟩

set_option maxRecDepth 100000 in
set_option maxHeartbeats 4000000 in
theorem flay_any (ps : List (FV × LD)) (rb o cap : Nat) (w : World) (hg : Pk.Glob w) (he : GlobE w) (h : Row (w.heap.size + 1 + 1) w ps) (hr : RowB rb o (ps.map (·.1)) w) (hrb : rb < w.heap.size) (hL : psMx ps ≤ 9000000) :
    Calls Tryz.prog 15 #[.slice (some ⟨rb, o, none⟩) ps.length cap] w fun e w' => e = .returned (.tuple #[.string ⟨(layOr (psOk ps) (mapP (psP ps))).1.toArray⟩, .int .i64 (layOr (psOk ps) (mapP (psP ps))).2]) ∧ Below w.heap.size w w' := by
  have hmf : ∀ (fn : Fn) (first cap : Array Value) (w : World), (Instr.makeFunc fn first cap).run Tryz.prog w = .ok (.func fn first cap) w := fun _ _ _ _ => rfl
  have HB0 : Hid (Below w.heap.size w ((w.alloc (.cells #[.string ⟨#[]⟩] 9)).alloc (.cells #[.int .i64 0] 32))) := Lib.hid ((by0 w _).alloc (by simp) _)
  have HSZ : Hid (((w.alloc (.cells #[.string ⟨#[]⟩] 9)).alloc (.cells #[.int .i64 0] 32)).heap.size = w.heap.size + 1 + 1) := Lib.hid (by simp)
  have hb1 : ((w.alloc (.cells #[.string ⟨#[]⟩] 9)).alloc (.cells #[.int .i64 0] 32)).heap[w.heap.size]? = some (.cells #[.string ⟨#[]⟩] 9 (0, 0)) := lit_old _ (heap_alloc_new w _)
  have he1 : ((w.alloc (.cells #[.string ⟨#[]⟩] 9)).alloc (.cells #[.int .i64 0] 32)).heap[w.heap.size + 1]? = some (.cells #[.int .i64 0] 32 (0, 0)) := by
    rw [show w.heap.size + 1 = (w.alloc (.cells #[.string ⟨#[]⟩] 9)).heap.size by simp]; exact heap_alloc_new _ _
  have HBV := Lib.hid hb1
  have HEV := Lib.hid he1
  have HN0 := Pk.new_any _ (hg.next HB0.out)
  rw [HSZ.out] at HN0
  have HN := Lib.hid HN0
  have HRow := Lib.hid h
  have HRB := Lib.hid hr
  have HRL := Lib.hid hrb
  have HML := Lib.hid hL
  have HGE := Lib.hid he
  clear hb1 he1 HN0 hg h hr hrb hL he
  have HSE : Hid (psOk ps = true → (mapP (psP ps)).length < 10000000) := Lib.hid fun ho => by have := HRow.out.len ho; have := HML.out; omega
  go_enter_defers Tryz.func15, Tryz.ntmps15
  go_upto_region 2 with fail
  generalize (w.alloc (.cells #[.string ⟨#[]⟩] 9)).alloc (.cells #[.int .i64 0] 32) = w1 at *
  go_upto_region 3 with (go_at_call 44; refine HN.out.mono ?_; rintro e w3 ⟨b, rfl, hw3, hb3⟩)
  have hs1 := HSZ.out
  have hb03 : Below w.heap.size w w3 := HB0.out.trans (hb3.mono (by omega))
  have HL0 := layRow_ps HRow.out rb o cap b [] w3 ((Sta.refl _ w).next hb03) hw3 (HRB.out.next (hb03.block rb HRL.out)) (by have := hb03.size; have := HRL.out; omega) (by have := HML.out; simpa using this)
  have HLL := Lib.hid HL0
  have HBV3 := Lib.hid ((hb3.block w.heap.size (by omega)).trans HBV.out)
  have HEV3 := Lib.hid ((hb3.block (w.heap.size + 1) (by omega)).trans HEV.out)
  have HB03 := Lib.hid hb03
  have HGE3 := Lib.hid (HGE.out.next hb03)
  clear hw3 hb3 HL0 hb03 HBV HEV HN
  cases hd : psOk ps with
  | true =>
    rw [hd] at HLL
    have HMM := Lib.hid (HSE.out hd)
    have HE : Hid (layOr (psOk ps) (mapP (psP ps)) = (mapP (psP ps), 0)) := Lib.hid (by rw [hd]; rfl)
    clear hd
    go_wp2_with (first | (go_at_call 45; refine HLL.out.mono ?_; rintro e w4 (⟨_, rfl, hw4, hb4⟩ | ⟨h, _⟩); rotate_left; (cases h); have HT := Lib.hid (Pk.text_any _ b _ w4 hw4 HMM.out); have HB4 := Lib.hid hb4; clear hb4) | (go_at_call 46; refine HT.out.mono ?_; rintro e w5 ⟨rfl, hb5⟩; have hbv5 := (hb5.block w.heap.size (by have := HB4.out.size; have := lit_lt HBV3.out; omega)).trans ((HB4.out.block w.heap.size (by omega)).trans HBV3.out); have hev5 := (hb5.block (w.heap.size + 1) (by have := HB4.out.size; have := lit_lt HEV3.out; omega)).trans ((HB4.out.block (w.heap.size + 1) (by omega)).trans HEV3.out); have x0 := (lit_cell hbv5 0).trans rfl; have x1 := lit_free hbv5 0; have y0 := (lit_cell hev5 0).trans rfl; have y1 := lit_free hev5 0))
    have hb05 : Below w.heap.size w w5 := (HB03.out.trans (HB4.out.b.mono (by omega))).trans (hb5.mono (by have := HB4.out.size; have := lit_lt HBV3.out; omega))
    have hW1 : ((w5.setCell ⟨w.heap.size, 0, none⟩ (.string ⟨(mapP (psP ps)).toArray⟩)).setCell ⟨w.heap.size + 1, 0, none⟩ (.int .i64 0)).heap[w.heap.size]? = some (.cells #[.string ⟨(mapP (psP ps)).toArray⟩] 9 (0, 0)) := (lit_far _ (by omega)).trans ((lit_set _ hbv5).trans rfl)
    have hW2 : ((w5.setCell ⟨w.heap.size, 0, none⟩ (.string ⟨(mapP (psP ps)).toArray⟩)).setCell ⟨w.heap.size + 1, 0, none⟩ (.int .i64 0)).heap[w.heap.size + 1]? = some (.cells #[.int .i64 0] 32 (0, 0)) := (lit_set _ ((lit_far _ (by omega)).trans hev5)).trans rfl
    have hW3 : Below w.heap.size w ((w5.setCell ⟨w.heap.size, 0, none⟩ (.string ⟨(mapP (psP ps)).toArray⟩)).setCell ⟨w.heap.size + 1, 0, none⟩ (.int .i64 0)) := (hb05.setCell (Nat.le_refl _) _).setCell (by simp) _
    generalize (w5.setCell ⟨w.heap.size, 0, none⟩ (.string ⟨(mapP (psP ps)).toArray⟩)).setCell ⟨w.heap.size + 1, 0, none⟩ (.int .i64 0) = wf at *
    refine leaves_cons (f := 42) (args := #[.pointer (some ⟨w.heap.size, 0, none⟩), .pointer (some ⟨w.heap.size + 1, 0, none⟩)]) (by simp) (by simp [go_sem]) ?_
    refine (lay1_idle w.heap.size (w.heap.size + 1) wf).mono ?_
    rintro e u' w'' ⟨rfl, rfl, rfl⟩
    have z0 := (lit_cell hW1 0).trans rfl
    have z1 := (lit_cell hW2 0).trans rfl
    refine ⟨.tuple #[.string ⟨(mapP (psP ps)).toArray⟩, .int .i64 0], by simp [results, Tryz.results15, go_sem, z0, z1], by rw [HE.out], hW3⟩
  | false =>
    rw [hd] at HLL
    have HE : Hid (layOr (psOk ps) (mapP (psP ps)) = ([], 2)) := Lib.hid (by rw [hd]; rfl)
    clear hd
    go_wp2_with (go_at_call 45; refine HLL.out.mono ?_; rintro e w4 (⟨h, _⟩ | ⟨_, ⟨f, hf, rfl, hf0, hf1⟩, hb4⟩); (cases h))
    have hbv4 := (hb4.block w.heap.size (by omega)).trans HBV3.out
    have hev4 := (hb4.block (w.heap.size + 1) (by omega)).trans HEV3.out
    have hb04 : Below w.heap.size w w4 := HB03.out.trans (hb4.mono (by omega))
    refine leaves_cons (f := 42) (args := #[.pointer (some ⟨w.heap.size, 0, none⟩), .pointer (some ⟨w.heap.size + 1, 0, none⟩)]) (by simp) (by simp [go_sem]) ?_
    refine (lay1_catch f w.heap.size (w.heap.size + 1) 2 _ _ [] w4 (HGE.out.next hb04) hf0 (by omega) hbv4 hev4).mono ?_
    rintro e u' w'' ⟨rfl, rfl, w6, hb6, rfl⟩
    have hbv6 := (hb6.block w.heap.size (lit_lt hbv4)).trans hbv4
    have hev6 := (hb6.block (w.heap.size + 1) (lit_lt hev4)).trans hev4
    have hW1 : ((w6.setCell ⟨w.heap.size, 0, none⟩ (.string ⟨#[]⟩)).setCell ⟨w.heap.size + 1, 0, none⟩ (.int .i64 2)).heap[w.heap.size]? = some (.cells #[.string ⟨#[]⟩] 9 (0, 0)) := (lit_far _ (by omega)).trans ((lit_set _ hbv6).trans rfl)
    have hW2 : ((w6.setCell ⟨w.heap.size, 0, none⟩ (.string ⟨#[]⟩)).setCell ⟨w.heap.size + 1, 0, none⟩ (.int .i64 2)).heap[w.heap.size + 1]? = some (.cells #[.int .i64 2] 32 (0, 0)) := (lit_set _ ((lit_far _ (by omega)).trans hev6)).trans rfl
    have hW3 : Below w.heap.size w ((w6.setCell ⟨w.heap.size, 0, none⟩ (.string ⟨#[]⟩)).setCell ⟨w.heap.size + 1, 0, none⟩ (.int .i64 2)) := ((hb04.trans (hb6.mono hb04.size)).setCell (Nat.le_refl _) _).setCell (by simp) _
    generalize (w6.setCell ⟨w.heap.size, 0, none⟩ (.string ⟨#[]⟩)).setCell ⟨w.heap.size + 1, 0, none⟩ (.int .i64 2) = wf at *
    have z0 := (lit_cell hW1 0).trans rfl
    have z1 := (lit_cell hW2 0).trans rfl
    exact ⟨.tuple #[.string ⟨#[]⟩, .int .i64 2], by simp [results, Tryz.results15, go_sem, z0, z1], by rw [HE.out], hW3⟩
end Go.Proofs.YtlhmmplkdjibkaaGreatDoor
/- Layer 7's things as codecs. -/
namespace Go.Proofs.YtlhmmplkdjibkaaGreatDoor
open Go.RowKit

/-- a number of a thing, left out if it is 0 -/
def numFld {ρ : Type} (key : UInt8) (of : ρ → Nat) (set : ρ → Nat → ρ) : Fld ρ := ⟨key, Nat, numC, fun p => if of p = 0 then none else some (of p), set⟩
/-- a digest of a thing -/
def digFld {ρ : Type} (key : UInt8) (of : ρ → (List UInt8)) (set : ρ → (List UInt8) → ρ) : Fld ρ := ⟨key, (List UInt8), digC, fun p => if of p = [] then none else some (of p), set⟩
/-- a list, if something is in it -/
def lst {α : Type} : List α → Option (List α)
  | [] => none
  | x :: l => some (x :: l)
/-- a list of a thing, left out if nothing is in it -/
def listFld {ρ α : Type} (key : UInt8) (m : Nat) (hm : m ≤ 10240) (C : Codec α) (of : ρ → List α) (set : ρ → List α → ρ) : Fld ρ := ⟨key, List α, listC m hm C, fun p => lst (of p), set⟩
/-- a map that is a field, and is not nothing -/
def nzC {α : Type} (C : Codec α) (z : α → Bool) : Codec α where
  put := C.put
  ok x := C.ok x ∧ z x = false
  get left a := match C.get left a with
    | .error f => .error f
    | .ok (x, k) => if z x then .error (5, 0) else .ok (x, k)
  there x R a h := by rw [C.there x R a h.1]; simp [h.2]
  back left a x k h := by
    cases hg : C.get left a with
    | error f => rw [hg] at h; cases h
    | ok r =>
      obtain ⟨y, k1⟩ := r
      rw [hg] at h
      simp only at h
      cases hz : z y with
      | true => rw [hz] at h; cases h
      | false =>
        rw [hz] at h
        cases h
        obtain ⟨h1, h2, h3⟩ := C.back _ _ _ _ hg
        exact ⟨⟨h1, hz⟩, h2, h3⟩
  some x h := C.some x h.1
def nzFld {ρ α : Type} (key : UInt8) (C : Codec α) (z : α → Bool) (of : ρ → α) (set : ρ → α → ρ) : Fld ρ := ⟨key, α, nzC C z, fun p => if z (of p) then none else some (of p), set⟩
def yesFld {ρ : Type} (key : UInt8) (of : ρ → Bool) (set : ρ → Bool → ρ) : Fld ρ := ⟨key, Bool, yesC, fun p => if of p then some true else none, set⟩

theorem dig_ne {s : (List UInt8)} (h : digB s = true) : s ≠ [] := by
  intro e; subst e; cases h
theorem num_view {x y : Nat} (h : (if x = 0 then none else some x) = (if y = 0 then none else some y)) : x = y := by
  by_cases hx : x = 0 <;> by_cases hy : y = 0 <;> simp_all
theorem dig_view {x y : (List UInt8)} (h : (if x = [] then none else some x) = (if y = [] then none else some y)) : x = y := by
  by_cases hx : x = [] <;> by_cases hy : y = [] <;> simp_all
theorem list_view {α : Type} {x y : List α} (h : lst x = lst y) : x = y := by
  cases x <;> cases y <;> simp_all [lst]

def zPart : PartR := ⟨[], 0, 0, 0, 0⟩
def partFs : List (Fld PartR) := [numFld 102 (·.first) (fun p v => { p with first := v }), numFld 107 (·.keys) (fun p v => { p with keys := v }), numFld 108 (·.life) (fun p v => { p with life := v }), digFld 114 (·.root) (fun p v => { p with root := v }), numFld 119 (·.weight) (fun p v => { p with weight := v })]
theorem part_flds : Flds partFs zPart where
  few := by decide
  keys := by simp [partFs, numFld, digFld]
  seen f hf p v hv := by
    simp only [partFs, List.mem_cons, List.not_mem_nil, or_false] at hf
    rcases hf with rfl | rfl | rfl | rfl | rfl
    · exact if_neg hv.1
    · exact if_neg hv.1
    · exact if_neg hv.1
    · exact if_neg (dig_ne hv)
    · exact if_neg hv.1
  other f hf g hg hne p v := by
    simp only [partFs, List.mem_cons, List.not_mem_nil, or_false] at hf hg
    rcases hf with rfl | rfl | rfl | rfl | rfl <;> rcases hg with rfl | rfl | rfl | rfl | rfl <;> first | rfl | exact absurd rfl hne
  none f hf := by
    simp only [partFs, List.mem_cons, List.not_mem_nil, or_false] at hf
    rcases hf with rfl | rfl | rfl | rfl | rfl <;> rfl
  ext p q h := by
    have h1 := num_view (h _ (List.mem_cons_self ..))
    have h2 := num_view (h _ (List.mem_cons_of_mem _ (List.mem_cons_self ..)))
    have h3 := num_view (h _ (List.mem_cons_of_mem _ (List.mem_cons_of_mem _ (List.mem_cons_self ..))))
    have h4 := dig_view (h _ (List.mem_cons_of_mem _ (List.mem_cons_of_mem _ (List.mem_cons_of_mem _ (List.mem_cons_self ..)))))
    have h5 := num_view (h _ (List.mem_cons_of_mem _ (List.mem_cons_of_mem _ (List.mem_cons_of_mem _ (List.mem_cons_of_mem _ (List.mem_cons_self ..))))))
    cases p; cases q
    simp_all
def partC : Codec PartR := mapC partFs zPart (fun p => !p.root.isEmpty) part_flds
theorem list_seen {α : Type} {v : List α} (h : v ≠ []) : lst v = some v := by
  cases v with
  | nil => exact absurd rfl h
  | cons a l => rfl
theorem yes_view {x y : Bool} (h : (if x then some true else none) = (if y then some true else none)) : x = y := by
  cases x <;> cases y <;> simp_all

def zSig : SigR := ⟨0, [], []⟩
def sigFs : List (Fld SigR) := [numFld 105 (·.index) (fun p v => { p with index := v }), listFld 112 16 (by decide) digC (·.path) (fun p v => { p with path := v }), listFld 118 67 (by decide) digC (·.wots) (fun p v => { p with wots := v })]
theorem sig_flds : Flds sigFs zSig where
  few := by decide
  keys := by simp [sigFs, listFld, numFld]
  seen f hf p v hv := by
    simp only [sigFs, List.mem_cons, List.not_mem_nil, or_false] at hf
    rcases hf with rfl | rfl | rfl
    · exact if_neg hv.1
    · exact list_seen hv.1
    · exact list_seen hv.1
  other f hf g hg hne p v := by
    simp only [sigFs, List.mem_cons, List.not_mem_nil, or_false] at hf hg
    rcases hf with rfl | rfl | rfl <;> rcases hg with rfl | rfl | rfl <;> first | rfl | exact absurd rfl hne
  none f hf := by
    simp only [sigFs, List.mem_cons, List.not_mem_nil, or_false] at hf
    rcases hf with rfl | rfl | rfl <;> rfl
  ext p q h := by
    have h0 := num_view (h _ (List.mem_cons_self ..))
    have h1 := list_view (h _ (List.mem_cons_of_mem _ (List.mem_cons_self ..)))
    have h2 := list_view (h _ (List.mem_cons_of_mem _ (List.mem_cons_of_mem _ (List.mem_cons_self ..))))
    cases p; cases q
    simp_all
def sigC : Codec SigR := mapC sigFs zSig (fun _ => true) sig_flds
def sigZ (g : SigR) : Bool := g.index == 0 && g.path.isEmpty && g.wots.isEmpty
theorem sig_view {x y : SigR} (h : (if sigZ x then none else some x) = (if sigZ y then none else some y)) : x = y := by
  cases hx : sigZ x <;> cases hy : sigZ y <;> rw [hx, hy] at h
  · simpa using h
  · cases h
  · cases h
  · cases x; cases y; simp_all [sigZ]

def zSlot : SlotR := ⟨0, false, zSig⟩
def slotFs : List (Fld SlotR) := [nzFld 103 sigC sigZ (·.sig) (fun p v => { p with sig := v }), numFld 108 (·.l) (fun p v => { p with l := v }), yesFld 115 (·.signed) (fun p v => { p with signed := v })]
theorem slot_flds : Flds slotFs zSlot where
  few := by decide
  keys := by simp [slotFs, numFld, nzFld, yesFld]
  seen f hf p v hv := by
    simp only [slotFs, List.mem_cons, List.not_mem_nil, or_false] at hf
    rcases hf with rfl | rfl | rfl
    · exact if_neg (show ¬ sigZ v = true from by rw [show sigZ v = false from hv.2]; decide)
    · exact if_neg hv.1
    · cases (show v = true from hv); rfl
  other f hf g hg hne p v := by
    simp only [slotFs, List.mem_cons, List.not_mem_nil, or_false] at hf hg
    rcases hf with rfl | rfl | rfl <;> rcases hg with rfl | rfl | rfl <;> first | rfl | exact absurd rfl hne
  none f hf := by
    simp only [slotFs, List.mem_cons, List.not_mem_nil, or_false] at hf
    rcases hf with rfl | rfl | rfl <;> rfl
  ext p q h := by
    have h0 := sig_view (h _ (List.mem_cons_self ..))
    have h1 := num_view (h _ (List.mem_cons_of_mem _ (List.mem_cons_self ..)))
    have h2 := yes_view (h _ (List.mem_cons_of_mem _ (List.mem_cons_of_mem _ (List.mem_cons_self ..))))
    cases p; cases q
    simp_all
def slotC : Codec SlotR := mapC slotFs zSlot (fun _ => true) slot_flds
def slotZ (x : SlotR) : Bool := sigZ x.sig && x.l == 0 && !x.signed
theorem slot_view {x y : SlotR} (h : (if slotZ x then none else some x) = (if slotZ y then none else some y)) : x = y := by
  cases hx : slotZ x <;> cases hy : slotZ y <;> rw [hx, hy] at h
  · simpa using h
  · cases h
  · cases h
  · obtain ⟨_, _, g⟩ := x; obtain ⟨_, _, g'⟩ := y; cases g; cases g'; simp_all [slotZ, sigZ]
def partZ (p : PartR) : Bool := p.root.isEmpty && p.weight == 0 && p.first == 0 && p.life == 0 && p.keys == 0
theorem part_view {x y : PartR} (h : (if partZ x then none else some x) = (if partZ y then none else some y)) : x = y := by
  cases hx : partZ x <;> cases hy : partZ y <;> rw [hx, hy] at h
  · simpa using h
  · cases h
  · cases h
  · cases x; cases y; simp_all [partZ]
theorem partC_nz {p : PartR} (h : partC.ok p) : partZ p = false := by
  have h2 : (!p.root.isEmpty) = true := h.2
  cases hr : p.root.isEmpty <;> simp_all [partZ]
/-- a Reveal's Part -/
def rpartFld : Fld RevR := ⟨113, PartR, partC, fun p => if partZ p.part then none else some p.part, fun p v => { p with part := v }⟩

def zRev : RevR := ⟨0, zSlot, zPart⟩
def revFs : List (Fld RevR) := [numFld 112 (·.pos) (fun p v => { p with pos := v }), rpartFld, nzFld 115 slotC slotZ (·.slot) (fun p v => { p with slot := v })]
theorem rev_flds : Flds revFs zRev where
  few := by decide
  keys := by simp [revFs, rpartFld, numFld, nzFld]
  seen f hf p v hv := by
    simp only [revFs, List.mem_cons, List.not_mem_nil, or_false] at hf
    rcases hf with rfl | rfl | rfl
    · exact if_neg hv.1
    · exact if_neg (show ¬ partZ v = true from by rw [partC_nz hv]; decide)
    · exact if_neg (show ¬ slotZ v = true from by rw [show slotZ v = false from hv.2]; decide)
  other f hf g hg hne p v := by
    simp only [revFs, List.mem_cons, List.not_mem_nil, or_false] at hf hg
    rcases hf with rfl | rfl | rfl <;> rcases hg with rfl | rfl | rfl <;> first | rfl | exact absurd rfl hne
  none f hf := by
    simp only [revFs, List.mem_cons, List.not_mem_nil, or_false] at hf
    rcases hf with rfl | rfl | rfl <;> rfl
  ext p q h := by
    have h0 := num_view (h _ (List.mem_cons_self ..))
    have h1 := part_view (h _ (List.mem_cons_of_mem _ (List.mem_cons_self ..)))
    have h2 := slot_view (h _ (List.mem_cons_of_mem _ (List.mem_cons_of_mem _ (List.mem_cons_self ..))))
    cases p; cases q
    simp_all
def revC : Codec RevR := mapC revFs zRev (fun p => !p.part.root.isEmpty) rev_flds
def zCert : CertR := ⟨[], 0, [], [], [], []⟩
def certFs : List (Fld CertR) := [listFld 80 10240 (by decide) digC (·.partProof) (fun p v => { p with partProof := v }), listFld 83 10240 (by decide) digC (·.slotProof) (fun p v => { p with slotProof := v }), digFld 99 (·.root) (fun p v => { p with root := v }), listFld 112 640 (by decide) anyC (·.coins) (fun p v => { p with coins := v }), listFld 114 640 (by decide) revC (·.reveals) (fun p v => { p with reveals := v }), numFld 119 (·.signed) (fun p v => { p with signed := v })]
theorem cert_flds : Flds certFs zCert where
  few := by decide
  keys := by simp [certFs, digFld, listFld, numFld]
  seen f hf p v hv := by
    simp only [certFs, List.mem_cons, List.not_mem_nil, or_false] at hf
    rcases hf with rfl | rfl | rfl | rfl | rfl | rfl
    · exact list_seen hv.1
    · exact list_seen hv.1
    · exact if_neg (dig_ne hv)
    · exact list_seen hv.1
    · exact list_seen hv.1
    · exact if_neg hv.1
  other f hf g hg hne p v := by
    simp only [certFs, List.mem_cons, List.not_mem_nil, or_false] at hf hg
    rcases hf with rfl | rfl | rfl | rfl | rfl | rfl <;> rcases hg with rfl | rfl | rfl | rfl | rfl | rfl <;> first | rfl | exact absurd rfl hne
  none f hf := by
    simp only [certFs, List.mem_cons, List.not_mem_nil, or_false] at hf
    rcases hf with rfl | rfl | rfl | rfl | rfl | rfl <;> rfl
  ext p q h := by
    have h0 := list_view (h _ (List.mem_cons_self ..))
    have h1 := list_view (h _ (List.mem_cons_of_mem _ (List.mem_cons_self ..)))
    have h2 := dig_view (h _ (List.mem_cons_of_mem _ (List.mem_cons_of_mem _ (List.mem_cons_self ..))))
    have h3 := list_view (h _ (List.mem_cons_of_mem _ (List.mem_cons_of_mem _ (List.mem_cons_of_mem _ (List.mem_cons_self ..)))))
    have h4 := list_view (h _ (List.mem_cons_of_mem _ (List.mem_cons_of_mem _ (List.mem_cons_of_mem _ (List.mem_cons_of_mem _ (List.mem_cons_self ..))))))
    have h5 := num_view (h _ (List.mem_cons_of_mem _ (List.mem_cons_of_mem _ (List.mem_cons_of_mem _ (List.mem_cons_of_mem _ (List.mem_cons_of_mem _ (List.mem_cons_self ..)))))))
    cases p; cases q
    simp_all
def certC : Codec CertR := mapC certFs zCert (fun p => !p.root.isEmpty) cert_flds
def zMsg : MsgR := ⟨[], [], 0, 0, 0, 0⟩
def msgFs : List (Fld MsgR) := [numFld 102 (·.first) (fun p v => { p with first := v }), digFld 104 (·.headers) (fun p v => { p with headers := v }), numFld 108 (·.last) (fun p v => { p with last := v }), numFld 110 (·.count) (fun p v => { p with count := v }), digFld 118 (·.parts) (fun p v => { p with parts := v }), numFld 119 (·.proven) (fun p v => { p with proven := v })]
theorem msg_flds : Flds msgFs zMsg where
  few := by decide
  keys := by simp [msgFs, digFld, numFld]
  seen f hf p v hv := by
    simp only [msgFs, List.mem_cons, List.not_mem_nil, or_false] at hf
    rcases hf with rfl | rfl | rfl | rfl | rfl | rfl
    · exact if_neg hv.1
    · exact if_neg (dig_ne hv)
    · exact if_neg hv.1
    · exact if_neg hv.1
    · exact if_neg (dig_ne hv)
    · exact if_neg hv.1
  other f hf g hg hne p v := by
    simp only [msgFs, List.mem_cons, List.not_mem_nil, or_false] at hf hg
    rcases hf with rfl | rfl | rfl | rfl | rfl | rfl <;> rcases hg with rfl | rfl | rfl | rfl | rfl | rfl <;> first | rfl | exact absurd rfl hne
  none f hf := by
    simp only [msgFs, List.mem_cons, List.not_mem_nil, or_false] at hf
    rcases hf with rfl | rfl | rfl | rfl | rfl | rfl <;> rfl
  ext p q h := by
    have h0 := num_view (h _ (List.mem_cons_self ..))
    have h1 := dig_view (h _ (List.mem_cons_of_mem _ (List.mem_cons_self ..)))
    have h2 := num_view (h _ (List.mem_cons_of_mem _ (List.mem_cons_of_mem _ (List.mem_cons_self ..))))
    have h3 := num_view (h _ (List.mem_cons_of_mem _ (List.mem_cons_of_mem _ (List.mem_cons_of_mem _ (List.mem_cons_self ..)))))
    have h4 := dig_view (h _ (List.mem_cons_of_mem _ (List.mem_cons_of_mem _ (List.mem_cons_of_mem _ (List.mem_cons_of_mem _ (List.mem_cons_self ..))))))
    have h5 := num_view (h _ (List.mem_cons_of_mem _ (List.mem_cons_of_mem _ (List.mem_cons_of_mem _ (List.mem_cons_of_mem _ (List.mem_cons_of_mem _ (List.mem_cons_self ..)))))))
    cases p; cases q
    simp_all
def msgC : Codec MsgR := mapC msgFs zMsg (fun p => !p.headers.isEmpty && !p.parts.isEmpty) msg_flds
def zHdr : HdrR := ⟨0, [], [], []⟩
def hdrFs : List (Fld HdrR) := [digFld 112 (·.prev) (fun p v => { p with prev := v }), numFld 114 (·.round) (fun p v => { p with round := v }), digFld 115 (·.seed) (fun p v => { p with seed := v }), digFld 116 (·.txns) (fun p v => { p with txns := v })]
theorem hdr_flds : Flds hdrFs zHdr where
  few := by decide
  keys := by simp [hdrFs, digFld, numFld]
  seen f hf p v hv := by
    simp only [hdrFs, List.mem_cons, List.not_mem_nil, or_false] at hf
    rcases hf with rfl | rfl | rfl | rfl
    · exact if_neg (dig_ne hv)
    · exact if_neg hv.1
    · exact if_neg (dig_ne hv)
    · exact if_neg (dig_ne hv)
  other f hf g hg hne p v := by
    simp only [hdrFs, List.mem_cons, List.not_mem_nil, or_false] at hf hg
    rcases hf with rfl | rfl | rfl | rfl <;> rcases hg with rfl | rfl | rfl | rfl <;> first | rfl | exact absurd rfl hne
  none f hf := by
    simp only [hdrFs, List.mem_cons, List.not_mem_nil, or_false] at hf
    rcases hf with rfl | rfl | rfl | rfl <;> rfl
  ext p q h := by
    have h0 := dig_view (h _ (List.mem_cons_self ..))
    have h1 := num_view (h _ (List.mem_cons_of_mem _ (List.mem_cons_self ..)))
    have h2 := dig_view (h _ (List.mem_cons_of_mem _ (List.mem_cons_of_mem _ (List.mem_cons_self ..))))
    have h3 := dig_view (h _ (List.mem_cons_of_mem _ (List.mem_cons_of_mem _ (List.mem_cons_of_mem _ (List.mem_cons_self ..)))))
    cases p; cases q
    simp_all
def hdrC : Codec HdrR := mapC hdrFs zHdr (fun p => !p.prev.isEmpty && !p.seed.isEmpty && !p.txns.isEmpty) hdr_flds

end Go.Proofs.YtlhmmplkdjibkaaGreatDoor
/- The rows of a Part, a Sig, a Slot, a Reveal: what they lay. -/
namespace Go.Proofs.YtlhmmplkdjibkaaGreatDoor
open Go.RowKit

theorem holds_block {B : Nat} {w0 : World} {t o : Nat} {v : Value} {cs : Array Value} {T : TypeId} (h : w0.heap[t]? = some (.cells cs T (0, 0))) (h5 : T ≠ 5) (hw : T ≠ 165) (hc : cs[o]? = some v) : Holds B w0 t o v := fun w hS => by
  rw [lit_cell (hS.blk h h5 hw)]
  exact hc
theorem Holds.mono {B : Nat} {w0 w1 : World} {t o : Nat} {v : Value} (h : Holds B w0 t o v) (hS : Sta B w0 w1) : Holds B w1 t o v := fun w h1 => h w (hS.trans h1)
theorem HoldsL.mono {α : Type} {B : Nat} {w0 w1 : World} {enc : α → Value} {l : List α} {ao : Option Addr} (h : HoldsL B w0 enc l ao) (hS : Sta B w0 w1) : HoldsL B w1 enc l ao := by
  rcases h with h | ⟨bb, off, h1, h2⟩
  · exact .inl h
  · exact .inr ⟨bb, off, h1, fun w h3 => h2 w (hS.trans h3)⟩
/-- numbers of 64 bits, lists that a memory can hold -/
structure PartIn (p : PartR) : Prop where
  w : p.weight < 18446744073709551616
  f : p.first < 18446744073709551616
  l : p.life < 18446744073709551616
  k : p.keys < 18446744073709551616
structure SigIn (g : SigR) : Prop where
  i : g.index < 18446744073709551616
  w : g.wots.length ≤ 9223372036854775807
  p : g.path.length ≤ 9223372036854775807
structure SlotIn (x : SlotR) : Prop where
  l : x.l < 18446744073709551616
  g : SigIn x.sig
structure RevIn (r : RevR) : Prop where
  n : r.pos < 18446744073709551616
  s : SlotIn r.slot
  p : PartIn r.part
/-- a thing as it lies in memory -/
structure PartH (B : Nat) (w0 : World) (t o : Nat) (p : PartR) : Prop where
  r : Holds B w0 t o (.string ⟨p.root.toArray⟩)
  w : Holds B w0 t (o + 1) (.int .u64 (p.weight : Int))
  f : Holds B w0 t (o + 2) (.int .u64 (p.first : Int))
  l : Holds B w0 t (o + 3) (.int .u64 (p.life : Int))
  k : Holds B w0 t (o + 4) (.int .u64 (p.keys : Int))
abbrev encS : (List UInt8) → Value := fun s => .string ⟨s.toArray⟩
abbrev encN : Nat → Value := fun n => .int .u64 (n : Int)
structure SigH (B : Nat) (w0 : World) (t o : Nat) (g : SigR) : Prop where
  i : Holds B w0 t o (.int .u64 (g.index : Int))
  w : ∃ ao cp, Holds B w0 t (o + 1) (.slice ao g.wots.length cp) ∧ HoldsL B w0 encS g.wots ao
  p : ∃ ao cp, Holds B w0 t (o + 2) (.slice ao g.path.length cp) ∧ HoldsL B w0 encS g.path ao
structure SlotH (B : Nat) (w0 : World) (t o : Nat) (x : SlotR) : Prop where
  l : Holds B w0 t o (.int .u64 (x.l : Int))
  s : Holds B w0 t (o + 1) (.bool x.signed)
  g : SigH B w0 t (o + 2) x.sig
structure RevH (B : Nat) (w0 : World) (t o : Nat) (r : RevR) : Prop where
  n : Holds B w0 t o (.int .u64 (r.pos : Int))
  s : SlotH B w0 t (o + 1) r.slot
  p : PartH B w0 t (o + 6) r.part
/-- a row that lays pairs -/
structure LaysRow (B : Nat) (w0 : World) (fs : List FV) (n : Nat) (F : List (UInt8 × (List UInt8))) (ok th : Bool) (mx : Nat) (ps : List (FV × LD)) : Prop where
  fs : fs = ps.map (·.1)
  n : ps.length = n
  r : Row B w0 ps
  p : psP ps = F
  o : psOk ps = ok
  t : ps.any (fun p => p.2.th) = th
  m : psMx ps = mx

theorem digsP_if (l : List (List UInt8)) : digsP l = if 0 < l.length then headP 3 l.length ++ l.flatMap binP else [] := by
  unfold digsP
  cases l <;> simp
theorem mayB_eq (l : List (List UInt8)) (n : Nat) : (!(false || decide (0 < l.length)) || (decide (l.length ≤ n) && l.all digB)) = mayB l n := by
  unfold mayB
  cases l with
  | nil => simp
  | cons x l => rw [Bool.and_comm]; simp
set_option maxRecDepth 100000 in
theorem part_row {B : Nat} {w0 : World} {lo t o fb : Nat} {fs : List FV} (hK : PartK lo t o fb fs w0) (p : PartR) (hH : PartH B w0 t o p) (hI : PartIn p) : ∃ ps, LaysRow B w0 fs 5 (partF p) (digB p.root) (!partZ p) 84 ps := by
  obtain ⟨⟨k0, k1, k2, k3, k4, rfl, h0, h1, h2, h3, h4⟩, _, _⟩ := hK
  refine ⟨[(numFV 102 k0, numLD p.first), (numFV 107 k1, numLD p.keys), (numFV 108 k2, numLD p.life), (digFV 114 k3, digLD p.root), (numFV 119 k4, numLD p.weight)], rfl, rfl, ⟨fun q hq => ?_, fun q hq => ?_, ?_, by simp, by simp⟩, ?_, ?_, ?_, ?_⟩
  · simp only [List.mem_cons, List.not_mem_nil, or_false] at hq
    rcases hq with rfl | rfl | rfl | rfl | rfl
    · exact lay_num h0 hH.f hI.f
    · exact lay_num h1 hH.k hI.k
    · exact lay_num h2 hH.l hI.l
    · exact lay_dig h3 hH.r
    · exact lay_num h4 hH.w hI.w
  · simp only [List.mem_cons, List.not_mem_nil, or_false] at hq
    rcases hq with rfl | rfl | rfl | rfl | rfl <;> first | exact numP_ne _ | (show binP _ ≠ []; rw [binP]; simp [headP_ne])
  · simp
  · simp [psP, toldP, numLD, digLD, partF, numZ]
  · simp [psOk, toldP, numLD, digLD]
  · simp only [List.any_cons, List.any_nil, numLD, digLD, partZ, bne]
    generalize (p.first == 0) = a1
    generalize (p.keys == 0) = a2
    generalize (p.life == 0) = a3
    generalize (p.weight == 0) = a4
    cases p.root.isEmpty <;> cases a1 <;> cases a2 <;> cases a3 <;> cases a4 <;> rfl
  · rfl
set_option maxRecDepth 100000 in
theorem sig_row {B : Nat} {w0 : World} {lo t o fb : Nat} {fs : List FV} (hK : SigK lo t o fb fs w0) (g : SigR) (hH : SigH B w0 t o g) (hI : SigIn g) : ∃ ps, LaysRow B w0 fs 3 (sigF g) (maySigB g) (!sigZ g) 2929 ps := by
  obtain ⟨⟨k0, k1, k2, rfl, h0, h1, h2⟩, _, _⟩ := hK
  obtain ⟨aw, cw, hw1, hw2⟩ := hH.w
  obtain ⟨ap, cp, hp1, hp2⟩ := hH.p
  refine ⟨[(numFV 105 k0, numLD g.index), (listSFV 112 k1, strsLD g.path 16), (listSFV 118 k2, strsLD g.wots 67)], rfl, rfl, ⟨fun q hq => ?_, fun q hq => ?_, ?_, by simp, by simp⟩, ?_, ?_, ?_, ?_⟩
  · simp only [List.mem_cons, List.not_mem_nil, or_false] at hq
    rcases hq with rfl | rfl | rfl
    · exact lay_num h0 hH.i hI.i
    · exact lay_strs h1 hp1 hp2 hI.p (by decide)
    · exact lay_strs h2 hw1 hw2 hI.w (by decide)
  · simp only [List.mem_cons, List.not_mem_nil, or_false] at hq
    rcases hq with rfl | rfl | rfl <;> first | exact numP_ne _ | (show headP _ _ ++ _ ≠ []; simp [headP_ne])
  · simp
  · simp [psP, toldP, numLD, strsLD, sigF, numZ, digsP_if]
  · simp only [psOk, List.all_cons, List.all_nil, toldP, numLD, strsLD, mayB_eq, maySigB]
    simp
  · simp only [List.any_cons, List.any_nil, numLD, strsLD, sigZ]
    cases g.path <;> cases g.wots <;> by_cases h1 : g.index = 0 <;> simp [h1, bne]
  · rfl

theorem prs_empty {ps : List (FV × LD)} (hne : ∀ p ∈ ps, p.2.bytes ≠ []) : (ps.any toldP = false → mapP (psP ps) = [128]) ∧ (ps.any toldP = true → mapP (psP ps) ≠ [128]) := by
  rw [mapP, prsB, prs_ps hne]
  constructor
  · intro h
    have : ps.filter toldP = [] := by
      rw [List.filter_eq_nil_iff]
      intro p hp ht
      have := List.any_eq_false.1 h p hp
      exact this ht
    rw [this]
    rfl
  · intro h e
    obtain ⟨p, hp, ht⟩ := List.any_eq_true.1 h
    have hm : p ∈ ps.filter toldP := List.mem_filter.2 ⟨hp, ht⟩
    obtain ⟨q, qs, hq⟩ : ∃ q qs, ps.filter toldP = q :: qs := by
      cases hf : ps.filter toldP with
      | nil => rw [hf] at hm; cases hm
      | cons q qs => exact ⟨q, qs, rfl⟩
    rw [hq] at e
    have h1 := congrArg List.length e
    have h2 : (headP 4 ((q :: qs).map fun p => (p.1.key, p.2.bytes)).length) ≠ [] := headP_ne _ _
    have h3 := List.length_pos_iff.2 h2
    simp at h1
    omega
/-- a thing that is a field and may be left out -/
theorem small_ps {B : Nat} {w0 : World} {fs : List FV} {n mx : Nat} {F : List (UInt8 × (List UInt8))} {ok th : Bool} {ps : List (FV × LD)} (h : LaysRow B w0 fs n F ok th mx ps) (hn : ps.any toldP = ps.any (fun p => p.2.th)) : smallP (mapP F) = if th then mapP F else [] := by
  have hp := prs_empty h.r.ne
  rw [h.p, hn, h.t] at hp
  unfold smallP
  cases th with
  | true => rw [if_neg (hp.2 rfl)]; rfl
  | false => rw [hp.1 rfl]; rfl
set_option maxRecDepth 100000 in
theorem sig_told {B : Nat} {w0 : World} {lo t o fb : Nat} {fs : List FV} {n mx : Nat} {F : List (UInt8 × (List UInt8))} {ok th : Bool} {ps : List (FV × LD)} (h : LaysRow B w0 fs n F ok th mx ps) (hK : SigK lo t o fb fs w0) : ps.any toldP = ps.any (fun p => p.2.th) := by
  obtain ⟨⟨k0, k1, k2, hf, _⟩, _, _⟩ := hK
  refine any_congr fun p hp => ?_
  have : p.1 ∈ fs := by rw [h.fs]; exact List.mem_map_of_mem hp
  rw [hf] at this
  simp only [List.mem_cons, List.not_mem_nil, or_false] at this
  rw [toldP]
  rcases this with e | e | e <;> rw [e] <;> rfl
set_option maxRecDepth 100000 in
theorem slot_told {B : Nat} {w0 : World} {lo t o fb : Nat} {fs : List FV} {n mx : Nat} {F : List (UInt8 × (List UInt8))} {ok th : Bool} {ps : List (FV × LD)} (h : LaysRow B w0 fs n F ok th mx ps) (hK : SlotK lo t o fb fs w0) : ps.any toldP = ps.any (fun p => p.2.th) := by
  obtain ⟨⟨k0, fb0, k1, k2, hf, _⟩, _, _⟩ := hK
  refine any_congr fun p hp => ?_
  have : p.1 ∈ fs := by rw [h.fs]; exact List.mem_map_of_mem hp
  rw [hf] at this
  simp only [List.mem_cons, List.not_mem_nil, or_false] at this
  rw [toldP]
  rcases this with e | e | e <;> rw [e] <;> rfl
theorem psP_nil : psP [] = [] := rfl
theorem psP_cons (p : FV × LD) (ps : List (FV × LD)) : psP (p :: ps) = (p.1.key, if toldP p then p.2.bytes else []) :: psP ps := rfl
theorem psOk_nil : psOk [] = true := rfl
theorem psOk_cons (p : FV × LD) (ps : List (FV × LD)) : psOk (p :: ps) = ((!toldP p || p.2.ok) && psOk ps) := rfl
theorem psMx_nil : psMx [] = 3 := rfl
theorem psMx_cons (p : FV × LD) (ps : List (FV × LD)) : psMx (p :: ps) = psMx ps + (2 + p.2.mx) := by
  rw [psMx, psMx, List.map_cons, List.sum_cons]
  omega
theorem thing_ne (ps : List (FV × LD)) : (thingLD ps).bytes ≠ [] := mapP_ne _
set_option maxRecDepth 100000 in
theorem slot_row {B : Nat} {w0 : World} {lo t o fb : Nat} {fs : List FV} (hK : SlotK lo t o fb fs w0) (x : SlotR) (hH : SlotH B w0 t o x) (hI : SlotIn x) : ∃ ps, LaysRow B w0 fs 3 (slotF x) (maySigB x.sig) (!slotZ x) 2956 ps := by
  obtain ⟨⟨k0, fb0, k1, k2, rfl, h0, ⟨fs0, hS⟩, h1, h2⟩, _, _⟩ := hK
  obtain ⟨gs, hg⟩ := sig_row hS x.sig hH.g hI.g
  have hsm := small_ps hg (sig_told hg hS)
  have h0' : New lo k0 (.slice (some ⟨fb0, 0, none⟩) gs.length gs.length) 60 w0 := by rw [hg.n]; exact h0
  have hr : RowAt fb0 (gs.map (·.1)) w0 := by rw [← hg.fs]; exact hS.r
  refine ⟨[(thingFV 103 false k0, thingLD gs), (numFV 108 k1, numLD x.l), (yesFV 115 k2, yesLD x.signed)], rfl, rfl, ⟨fun q hq => ?_, fun q hq => ?_, ?_, by simp, by simp⟩, ?_, ?_, ?_, ?_⟩
  · simp only [List.mem_cons, List.not_mem_nil, or_false] at hq
    rcases hq with rfl | rfl | rfl
    · exact lay_thing h0' hr hg.r hS.l
    · exact lay_num h1 hH.l hI.l
    · exact lay_yes h2 hH.s
  · simp only [List.mem_cons, List.not_mem_nil, or_false] at hq
    rcases hq with rfl | rfl | rfl <;> first | exact numP_ne _ | exact numP_ne 1 | exact thing_ne _
  · simp
  · rw [slotF, hsm]
    simp only [psP_cons, psP_nil, toldP, numLD, yesLD, thingLD, Bool.false_or, hg.t, hg.p, numZ]
    cases x.signed <;> by_cases h : x.l = 0 <;> simp [h]
  · simp only [psOk_cons, psOk_nil, toldP, numLD, yesLD, thingLD, hg.o, hg.t]
    cases hz : sigZ x.sig with
    | false => cases maySigB x.sig <;> simp
    | true =>
      have : maySigB x.sig = true := by
        simp only [sigZ, Bool.and_eq_true, List.isEmpty_iff] at hz
        simp [maySigB, mayB, hz.1.2, hz.2]
      rw [this]; simp
  · simp only [List.any_cons, List.any_nil, numLD, yesLD, thingLD, hg.t, slotZ, bne]
    generalize sigZ x.sig = a1
    generalize (x.l == 0) = a2
    cases a1 <;> cases a2 <;> cases x.signed <;> rfl
  · simp only [psMx_cons, psMx_nil, numLD, yesLD, thingLD, hg.m]
set_option maxRecDepth 100000 in
theorem rev_row {B : Nat} {w0 : World} {lo t o fb : Nat} {fs : List FV} (hK : RevK lo t o fb fs w0) (r : RevR) (hH : RevH B w0 t o r) (hI : RevIn r) : ∃ ps, LaysRow B w0 fs 3 (revF r) (mayRevB r) (!((r.pos == 0) && partZ r.part && slotZ r.slot)) 3058 ps := by
  obtain ⟨⟨k0, k1, fb1, k2, fb2, rfl, h0, h1, ⟨fs1, hP⟩, h2, ⟨fs2, hS⟩⟩, _, _⟩ := hK
  obtain ⟨ps1, hg1⟩ := part_row hP r.part hH.p hI.p
  obtain ⟨ps2, hg2⟩ := slot_row hS r.slot hH.s hI.s
  have hsm := small_ps hg2 (slot_told hg2 hS)
  have h1' : New lo k1 (.slice (some ⟨fb1, 0, none⟩) ps1.length ps1.length) 60 w0 := by rw [hg1.n]; exact h1
  have hr1 : RowAt fb1 (ps1.map (·.1)) w0 := by rw [← hg1.fs]; exact hP.r
  have h2' : New lo k2 (.slice (some ⟨fb2, 0, none⟩) ps2.length ps2.length) 60 w0 := by rw [hg2.n]; exact h2
  have hr2 : RowAt fb2 (ps2.map (·.1)) w0 := by rw [← hg2.fs]; exact hS.r
  refine ⟨[(numFV 112 k0, numLD r.pos), (thingFV 113 true k1, thingLD ps1), (thingFV 115 false k2, thingLD ps2)], rfl, rfl, ⟨fun q hq => ?_, fun q hq => ?_, ?_, by simp, by simp⟩, ?_, ?_, ?_, ?_⟩
  · simp only [List.mem_cons, List.not_mem_nil, or_false] at hq
    rcases hq with rfl | rfl | rfl
    · exact lay_num h0 hH.n hI.n
    · exact lay_thing h1' hr1 hg1.r hP.l
    · exact lay_thing h2' hr2 hg2.r hS.l
  · simp only [List.mem_cons, List.not_mem_nil, or_false] at hq
    rcases hq with rfl | rfl | rfl <;> first | exact numP_ne _ | exact numP_ne 1 | exact thing_ne _
  · simp
  · rw [revF, hsm]
    simp only [psP_cons, psP_nil, toldP, numLD, thingLD, Bool.false_or, Bool.true_or, if_true, hg1.p, hg2.t, hg2.p, numZ]
    by_cases h : r.pos = 0 <;> simp [h]
  · simp only [psOk_cons, psOk_nil, toldP, numLD, thingLD, hg1.o, hg2.o, hg2.t, mayRevB]
    cases hz : slotZ r.slot with
    | false => cases digB r.part.root <;> cases maySigB r.slot.sig <;> simp
    | true =>
      have : maySigB r.slot.sig = true := by
        simp only [slotZ, sigZ, Bool.and_eq_true, List.isEmpty_iff] at hz
        simp [maySigB, mayB, hz.1.1.1.2, hz.1.1.2]
      rw [this]; simp
  · simp only [List.any_cons, List.any_nil, numLD, thingLD, hg1.t, hg2.t, bne]
    generalize (r.pos == 0) = a1
    generalize partZ r.part = a2
    generalize slotZ r.slot = a3
    cases a1 <;> cases a2 <;> cases a3 <;> rfl
  · simp only [psMx_cons, psMx_nil, numLD, thingLD, hg1.m, hg2.m]
end Go.Proofs.YtlhmmplkdjibkaaGreatDoor
/- Reveals in a list; the rows of a Cert, a Msg, a Header; Part, Slot, Cert, Msg, Header. -/
namespace Go.Proofs.YtlhmmplkdjibkaaGreatDoor
open Go.RowKit

/-- a Reveal's lists in memory -/
structure RevL (B : Nat) (w0 : World) (x : RevE) : Prop where
  w : HoldsL B w0 encS x.r.slot.sig.wots x.wa
  p : HoldsL B w0 encS x.r.slot.sig.path x.pa
theorem RevL.mono {B : Nat} {w0 w1 : World} {x : RevE} (h : RevL B w0 x) (hS : Sta B w0 w1) : RevL B w1 x := ⟨h.w.mono hS, h.p.mono hS⟩
theorem rev_holds {B : Nat} {w0 : World} {t : Nat} {x : RevE} (h : w0.heap[t]? = some (.cells (revQ x).toArray 57 (0, 0))) (hl : RevL B w0 x) : RevH B w0 t 0 x.r :=
  ⟨holds_block h (by decide) (by decide) rfl,
    ⟨holds_block h (by decide) (by decide) rfl, holds_block h (by decide) (by decide) rfl, ⟨holds_block h (by decide) (by decide) rfl, ⟨x.wa, x.wc, holds_block h (by decide) (by decide) rfl, hl.w⟩, ⟨x.pa, x.pc, holds_block h (by decide) (by decide) rfl, hl.p⟩⟩⟩,
    ⟨holds_block h (by decide) (by decide) rfl, holds_block h (by decide) (by decide) rfl, holds_block h (by decide) (by decide) rfl, holds_block h (by decide) (by decide) rfl, holds_block h (by decide) (by decide) rfl⟩⟩

set_option maxRecDepth 100000 in
set_option maxHeartbeats 1000000 in
theorem things1_any (B b kk : Nat) (L : (List UInt8)) (x : RevE) (w : World) (hW : Pk.Wr B b L w) (hk : w.cell? ⟨kk, 0, none⟩ = some (.func (.func 51) #[] #[])) (hx : RevL B w x) (hI : RevIn x.r) (hL : L.length + 3058 ≤ 9000000) :
    Calls Tryz.prog 101 #[.pointer (some ⟨b, 0, none⟩), revV x, .pointer (some ⟨kk, 0, none⟩)] w (Lays B b L (mapP (revF x.r)) (mayRevB x.r) w) := by
  have hkk : kk < w.heap.size := World.block_lt_of_cell? w _ hk
  have HSZ := Lib.hid (show B ≤ w.heap.size from by have := hW.lt; have := hW.hB; omega)
  have HW := Lib.hid hW
  have HX := Lib.hid hx
  have HI := Lib.hid hI
  have HL := Lib.hid hL
  have HN := Lib.hid (heap_alloc_new w (.cells (revQ x).toArray 57))
  have HB := Lib.hid (by0 w (.cells (revQ x).toArray 57))
  have HR := Lib.hid (rev_mk w.heap.size w.heap.size 0 (w.alloc (.cells (revQ x).toArray 57)) (by simp))
  clear hW hx hI hL
  go_enter Tryz.func101, Tryz.ntmps101
  go_upto_region 1 with fail
  change Code.wp _ _ _ _ (w.alloc (.cells (revQ x).toArray 57))
  have hk1 : (w.alloc (.cells (revQ x).toArray 57)).cell? ⟨kk, 0, none⟩ = some (.func (.func 51) #[] #[]) := (World.cell?_alloc_lt w _ ⟨kk, 0, none⟩ hkk).trans hk
  generalize w.alloc (.cells (revQ x).toArray 57) = w1 at *
  go_wp2_with (first | (go_at_call 51; refine HR.out.mono ?_; rintro e w2 ⟨fb, fs, rfl, hK, hb2⟩; have hb02 := HB.out.trans (hb2.mono HB.out.size); have hS2 : Sta B w w2 := (Sta.refl B w).next hb02; have ht2 := (hb2.block w.heap.size (lit_lt HN.out)).trans HN.out; obtain ⟨ps, hps⟩ := rev_row hK x.r (rev_holds ht2 (HX.out.mono hS2)) HI.out; have hr : RowB fb 0 (ps.map (·.1)) w2 := (by rw [← hps.fs]; exact hK.r.row); have HLR0 := layRow_ps hps.r fb 0 3 b L w2 (Sta.refl B w2) (HW.out.next hb02) hr (lit_lt hK.r) (by rw [hps.m]; exact HL.out); rw [hps.p, hps.o, hps.n] at HLR0; have HLR := Lib.hid HLR0; have HB02 := Lib.hid (Pk.Bel.fresh hb02 HSZ.out); clear hK hb2 hb02 hS2 ht2 hps hr HLR0) | (go_at_call 45; refine HLR.out.mono ?_; rintro e w3 (⟨hok, rfl, hw3, hb3⟩ | ⟨hok, ⟨f, hf, rfl, hf0, hf1⟩, hb3⟩)))
  · exact bodyPost_end (results_none rfl _ _ _) rfl (Lays.from (.inl ⟨by first | exact hok | rfl, rfl, hw3, hb3⟩) HB02.out)
  · exact ⟨rfl, Lays.from (.inr ⟨by first | exact hok | rfl, ⟨f, hf, rfl, hf0, hf1⟩, hb3⟩) HB02.out⟩

theorem mapP_len (fs : List (UInt8 × (List UInt8))) : (mapP fs).length ≤ 3 + (fs.map fun f => 2 + f.2.length).sum := by
  have h1 := headP_len 4 (prs fs).length
  have h2 : (prsB fs).length ≤ (fs.map fun f => 2 + f.2.length).sum := by
    rw [prsB, prs]
    clear h1
    induction fs with
    | nil => exact Nat.le_refl _
    | cons f fs ih =>
      rw [List.filter_cons, List.map_cons, List.sum_cons]
      split
      · rw [List.flatMap_cons, List.length_append, List.length_cons, List.length_cons]; omega
      · omega
  rw [mapP, List.length_append]
  omega
theorem numZ_len (n : Nat) : (numZ n).length ≤ 9 := by
  unfold numZ
  have := numP_len n
  split <;> simp <;> omega
theorem digsP_len {l : List (List UInt8)} {n : Nat} (h : mayB l n = true) : (digsP l).length ≤ 3 + n * 35 := by
  rw [mayB, Bool.and_eq_true, decide_eq_true_eq] at h
  unfold digsP
  split
  · simp
  · have h1 := lists_len binP digB 35 (fun _ h => binP_len h) l h.1
    have h2 := headP_len 3 l.length
    have h3 := Nat.mul_le_mul_right 35 h.2
    rw [List.length_append]
    omega
theorem smallP_len (s : (List UInt8)) : (smallP s).length ≤ s.length := by
  unfold smallP
  split <;> simp
theorem rev_len {r : RevR} (h : mayRevB r = true) : (mapP (revF r)).length ≤ 3058 := by
  rw [mayRevB, maySigB, Bool.and_eq_true, Bool.and_eq_true] at h
  have h1 := mapP_len (revF r)
  have h2 := mapP_len (partF r.part)
  have h3 := mapP_len (slotF r.slot)
  have h4 := mapP_len (sigF r.slot.sig)
  simp only [revF, partF, slotF, sigF, List.map_cons, List.map_nil, List.sum_cons, List.sum_nil] at h1 h2 h3 h4 ⊢
  have a1 := numZ_len r.pos
  have a2 := numZ_len r.part.first
  have a3 := numZ_len r.part.keys
  have a4 := numZ_len r.part.life
  have a5 := numZ_len r.part.weight
  have a6 := numZ_len r.slot.l
  have a7 := numZ_len r.slot.sig.index
  have b1 := binP_len h.1
  have b2 := digsP_len h.2.1
  have b3 := digsP_len h.2.2
  have c1 := smallP_len (mapP [(105, numZ r.slot.sig.index), (112, digsP r.slot.sig.path), (118, digsP r.slot.sig.wots)])
  have c2 := smallP_len (mapP [(103, smallP (mapP [(105, numZ r.slot.sig.index), (112, digsP r.slot.sig.path), (118, digsP r.slot.sig.wots)])), (108, numZ r.slot.l), (115, if r.slot.signed = true then numZ 1 else [])])
  have d1 : (if r.slot.signed = true then numZ 1 else []).length ≤ 9 := by
    split
    · exact numZ_len 1
    · simp
  omega
def revsLD (l : List RevE) (most : Nat) : LD := ⟨decide (0 < l.length), decide (l.length ≤ most) && l.all (fun x => mayRevB x.r), headP 3 l.length ++ l.flatMap (fun x => mapP (revF x.r)), 3 + most * 3058⟩
/-- Reveals in memory, whatever a writer does -/
def HoldsR (B : Nat) (w0 : World) (l : List RevE) (ao : Option Addr) : Prop := l = [] ∨ ∃ bb off, ao = some ⟨bb, off, none⟩ ∧ ∀ w, Sta B w0 w → ∀ i x, l[i]? = some x → ∀ j, j < 11 → w.cell? ⟨bb, off + (i * 11 + j), none⟩ = (revQ x)[j]?
theorem lay_revs {B : Nat} {w0 : World} {lo N kk t o most cp : Nat} {l : List RevE} {ao : Option Addr} {c : UInt8} (hk : NewR lo N kk t o most w0) (hv : Holds B w0 t o (.slice ao l.length cp)) (hl : HoldsR B w0 l ao) (hx : ∀ x ∈ l, RevL B w0 x ∧ RevIn x.r) (hn : l.length ≤ 9223372036854775807) (hm : most ≤ 10240) : LayF B w0 (listRFV c N) (revsLD l most) where
  t := ⟨fun _ _ => by kernel_rfl, fun w hw => listR1_any N t o l.length cp ao w (kCell (hw.blk hk.2.2.2.a (by decide) (by decide))) (hv w hw), fun _ _ h hb => h.next hb⟩
  ent := fun _ _ => by kernel_rfl
  len := fun _ h => by
    simp only [revsLD, Bool.and_eq_true, decide_eq_true_eq] at h ⊢
    have h1 := lists_len (fun x : RevE => mapP (revF x.r)) (fun x => mayRevB x.r) 3058 (fun _ h => rev_len h) l h.2
    have h2 := headP_len 3 l.length
    have h3 := Nat.mul_le_mul_right 3058 h.1
    rw [List.length_append]
    omega
  c := fun ht w b L hw hW hL => by
    rcases hl with rfl | ⟨bb, off, rfl, hc⟩
    · cases ht
    · exact listR2_any B b N (N + 1) (N + 1 + 1) t o 101 most #[ptrV kk] l bb off cp L w0 w (fun x => mapP (revF x.r)) (fun x => mayRevB x.r) 3058 (fun _ h => rev_len h) (fun _ _ => by kernel_rfl) hw hW (fun w1 h1 => ⟨kCell (h1.blk hk.2.2.2.a (by decide) (by decide)), kCell (h1.blk hk.2.2.2.m (by decide) (by decide)), kCell (h1.blk hk.2.2.2.l (by decide) (by decide)), hv w1 h1⟩) hc hn hm hL (fun x hxl w1 L1 h1 hW1 hL1 => things1_any B b kk L1 x w1 hW1 (kCell (h1.blk hk.2.2.1 (by decide) (by decide))) ((hx x hxl).1.mono h1) (hx x hxl).2 hL1)
end Go.Proofs.YtlhmmplkdjibkaaGreatDoor
/- A list of texts in memory. -/
namespace Go.Proofs.YtlhmmplkdjibkaaGreatDoor
open Go.RowKit

/-- the slice at ao lays the texts L -/
def Strs (ao : Option Addr) (L : List (List UInt8)) (w : World) : Prop :=
  L = [] ∨ ∃ b off, ao = some ⟨b, off, none⟩ ∧ b < w.heap.size ∧ ∀ i (h : i < L.length), w.cell? ⟨b, off + i, none⟩ = some (.string ⟨L[i].toArray⟩)
theorem Strs.below {ao : Option Addr} {L : List (List UInt8)} {w w' : World} {B : Nat} (h : Strs ao L w) (hB : w.heap.size ≤ B) (hb : Below B w w') : Strs ao L w' := by
  rcases h with h | ⟨b, off, h1, h2, h3⟩
  · exact .inl h
  · exact .inr ⟨b, off, h1, by have := hb.size; omega, fun i hi => (hb.cell (p := ⟨b, off + i, none⟩) (by show b < B; omega)).trans (h3 i hi)⟩
theorem Strs.cell {ao : Option Addr} {L : List (List UInt8)} {w : World} (h : Strs ao L w) (k : Nat) (hk : k < L.length) : ∃ b off, ao = some ⟨b, off, none⟩ ∧ w.cell? ⟨b, off + k, none⟩ = some (.string ⟨L[k].toArray⟩) := by
  rcases h with h | ⟨b, off, h1, h2, h3⟩
  · subst h; simp at hk
  · exact ⟨b, off, h1, h3 k hk⟩
end Go.Proofs.YtlhmmplkdjibkaaGreatDoor
/- The rows of a Cert, a Msg, a Header; Part, Slot, Cert, Msg, Header of the program. -/
namespace Go.Proofs.YtlhmmplkdjibkaaGreatDoor
open Go.RowKit

/-- a Cert in memory: where its lists lie -/
structure CertE where
  root : (List UInt8)
  signed : Nat
  rl : List RevE
  coins : List Nat
  sp : List (List UInt8)
  pp : List (List UInt8)
  ra : Option Addr
  rc : Nat
  ca : Option Addr
  cc : Nat
  sa : Option Addr
  sc : Nat
  pa : Option Addr
  pc : Nat
def CertE.r (c : CertE) : CertR := ⟨c.root, c.signed, c.rl.map (·.r), c.coins, c.sp, c.pp⟩
def certQ (c : CertE) : List Value := [.string ⟨c.root.toArray⟩, .int .u64 (c.signed : Int), .slice c.ra c.rl.length c.rc, .slice c.ca c.coins.length c.cc, .slice c.sa c.sp.length c.sc, .slice c.pa c.pp.length c.pc]
abbrev certV (c : CertE) : Value := .agg #[.string ⟨c.root.toArray⟩, .int .u64 (c.signed : Int), .slice c.ra c.rl.length c.rc, .slice c.ca c.coins.length c.cc, .slice c.sa c.sp.length c.sc, .slice c.pa c.pp.length c.pc]
structure CertIn (c : CertE) : Prop where
  s : c.signed < 18446744073709551616
  r : c.rl.length ≤ 9223372036854775807 ∧ ∀ x ∈ c.rl, RevIn x.r
  co : c.coins.length ≤ 9223372036854775807 ∧ ∀ x ∈ c.coins, x < 18446744073709551616
  sp : c.sp.length ≤ 9223372036854775807
  pp : c.pp.length ≤ 9223372036854775807
structure CertH (B : Nat) (w0 : World) (c : CertE) : Prop where
  r : HoldsR B w0 c.rl c.ra ∧ ∀ x ∈ c.rl, RevL B w0 x
  co : HoldsL B w0 encN c.coins c.ca
  sp : HoldsL B w0 encS c.sp c.sa
  pp : HoldsL B w0 encS c.pp c.pa
theorem coinsP_if (l : List Nat) : coinsP l = if 0 < l.length then headP 3 l.length ++ l.flatMap numP else [] := by
  unfold coinsP
  cases l <;> simp
theorem revsP_if (l : List RevE) : revsP (l.map (·.r)) = if 0 < l.length then headP 3 l.length ++ l.flatMap (fun x => mapP (revF x.r)) else [] := by
  unfold revsP
  cases l with
  | nil => rfl
  | cons x l =>
    rw [if_neg (by simp), if_pos (by simp), List.length_map, List.flatMap_map]
theorem ok_list {α : Type} (l : List α) (p : α → Bool) (n : Nat) : (!decide (0 < l.length) || (decide (l.length ≤ n) && l.all p)) = (l.all p && decide (l.length ≤ n)) := by
  cases l with
  | nil => simp
  | cons x l => rw [Bool.and_comm]; simp
set_option maxRecDepth 100000 in
theorem cert_row {B : Nat} {w0 : World} {lo t fb : Nat} {fs : List FV} (hK : CertK lo t 0 fb fs w0) (c : CertE) (ht : w0.heap[t]? = some (.cells (certQ c).toArray 27 (0, 0))) (hH : CertH B w0 c) (hI : CertIn c) : ∃ th ps, LaysRow B w0 fs 6 (certF c.r) (mayCertB c.r) th 2679751 ps := by
  obtain ⟨⟨k0, k1, k2, k3, k4, kk, k5, rfl, h0, h1, h2, h3, h4, h5⟩, _, _⟩ := hK
  refine ⟨_, [(listSFV 80 k0, strsLD c.pp 10240), (listSFV 83 k1, strsLD c.sp 10240), (digFV 99 k2, digLD c.root), (listNFV 112 k3, numsLD c.coins 640), (listRFV 114 k4, revsLD c.rl 640), (numFV 119 k5, numLD c.signed)], rfl, rfl, ⟨fun q hq => ?_, fun q hq => ?_, ?_, by simp, by simp⟩, ?_, ?_, rfl, ?_⟩
  · simp only [List.mem_cons, List.not_mem_nil, or_false] at hq
    rcases hq with rfl | rfl | rfl | rfl | rfl | rfl
    · exact lay_strs h0 (cp := c.pc) (holds_block ht (by decide) (by decide) rfl) hH.pp hI.pp (by decide)
    · exact lay_strs h1 (cp := c.sc) (holds_block ht (by decide) (by decide) rfl) hH.sp hI.sp (by decide)
    · exact lay_dig h2 (holds_block ht (by decide) (by decide) rfl)
    · exact lay_nums h3 (cp := c.cc) (holds_block ht (by decide) (by decide) rfl) hH.co hI.co.2 hI.co.1 (by decide)
    · exact lay_revs h4 (cp := c.rc) (holds_block ht (by decide) (by decide) rfl) hH.r.1 (fun x hx => ⟨hH.r.2 x hx, hI.r.2 x hx⟩) hI.r.1 (by decide)
    · exact lay_num h5 (holds_block ht (by decide) (by decide) rfl) hI.s
  · simp only [List.mem_cons, List.not_mem_nil, or_false] at hq
    rcases hq with rfl | rfl | rfl | rfl | rfl | rfl <;> first | exact numP_ne _ | (show binP _ ≠ []; rw [binP]; simp [headP_ne]) | (show headP _ _ ++ _ ≠ []; simp [headP_ne])
  · simp
  · rw [CertE.r, certF, revsP_if, coinsP_if, digsP_if, digsP_if]
    simp only [psP_cons, psP_nil, toldP, numLD, digLD, strsLD, numsLD, revsLD, Bool.false_or, Bool.true_or, if_true, decide_eq_true_eq, numZ]
    by_cases h : c.signed = 0 <;> simp [h]
  · simp only [psOk_cons, psOk_nil, toldP, numLD, digLD, strsLD, numsLD, revsLD, mayCertB, CertE.r, mayB, List.length_map, List.all_map, Bool.false_or, Bool.true_or]
    rw [ok_list, ok_list, ok_list, ok_list]
    have e : c.coins.all (fun _ => true) = true := by simp
    have e2 : (c.rl.all (mayRevB ∘ fun x => x.r)) = c.rl.all (fun x => mayRevB x.r) := rfl
    rw [e, e2]
    rw [Bool.eq_iff_iff]
    simp only [Bool.and_eq_true, decide_eq_true_eq, Bool.not_true, Bool.false_or, Bool.or_true, and_true, true_and]
    grind
  · simp only [psMx_cons, psMx_nil, numLD, digLD, strsLD, numsLD, revsLD]

/-- the other things in memory -/
def partQ (p : PartR) : List Value := [.string ⟨p.root.toArray⟩, .int .u64 (p.weight : Int), .int .u64 (p.first : Int), .int .u64 (p.life : Int), .int .u64 (p.keys : Int)]
abbrev partV (p : PartR) : Value := .agg #[.string ⟨p.root.toArray⟩, .int .u64 (p.weight : Int), .int .u64 (p.first : Int), .int .u64 (p.life : Int), .int .u64 (p.keys : Int)]
def msgQ (m : MsgR) : List Value := [.string ⟨m.headers.toArray⟩, .string ⟨m.parts.toArray⟩, .int .u64 (m.count : Int), .int .u64 (m.proven : Int), .int .u64 (m.first : Int), .int .u64 (m.last : Int)]
abbrev msgV (m : MsgR) : Value := .agg #[.string ⟨m.headers.toArray⟩, .string ⟨m.parts.toArray⟩, .int .u64 (m.count : Int), .int .u64 (m.proven : Int), .int .u64 (m.first : Int), .int .u64 (m.last : Int)]
abbrev hdrV (h : HdrR) : Value := .agg #[.int .u64 (h.round : Int), .string ⟨h.prev.toArray⟩, .string ⟨h.txns.toArray⟩, .string ⟨h.seed.toArray⟩]
structure SlotE where
  r : SlotR
  wa : Option Addr
  wc : Nat
  pa : Option Addr
  pc : Nat
def slotQ (x : SlotE) : List Value := [.int .u64 (x.r.l : Int), .bool x.r.signed, .int .u64 (x.r.sig.index : Int), .slice x.wa x.r.sig.wots.length x.wc, .slice x.pa x.r.sig.path.length x.pc]
abbrev slotV (x : SlotE) : Value := .agg #[.int .u64 (x.r.l : Int), .bool x.r.signed, .int .u64 (x.r.sig.index : Int), .slice x.wa x.r.sig.wots.length x.wc, .slice x.pa x.r.sig.path.length x.pc]
structure MsgIn (m : MsgR) : Prop where
  c : m.count < 18446744073709551616
  p : m.proven < 18446744073709551616
  f : m.first < 18446744073709551616
  l : m.last < 18446744073709551616
set_option maxRecDepth 100000 in
theorem msg_row {B : Nat} {w0 : World} {lo t fb : Nat} {fs : List FV} (hK : MsgK lo t 0 fb fs w0) (m : MsgR) (ht : w0.heap[t]? = some (.cells (msgQ m).toArray 93 (0, 0))) (hI : MsgIn m) : ∃ th ps, LaysRow B w0 fs 6 (msgF m) (digB m.headers && digB m.parts) th 121 ps := by
  obtain ⟨⟨k0, k1, k2, k3, k4, k5, rfl, h0, h1, h2, h3, h4, h5⟩, _, _⟩ := hK
  refine ⟨_, [(numFV 102 k0, numLD m.first), (digFV 104 k1, digLD m.headers), (numFV 108 k2, numLD m.last), (numFV 110 k3, numLD m.count), (digFV 118 k4, digLD m.parts), (numFV 119 k5, numLD m.proven)], rfl, rfl, ⟨fun q hq => ?_, fun q hq => ?_, ?_, by simp, by simp⟩, ?_, ?_, rfl, ?_⟩
  · simp only [List.mem_cons, List.not_mem_nil, or_false] at hq
    rcases hq with rfl | rfl | rfl | rfl | rfl | rfl
    · exact lay_num h0 (holds_block ht (by decide) (by decide) rfl) hI.f
    · exact lay_dig h1 (holds_block ht (by decide) (by decide) rfl)
    · exact lay_num h2 (holds_block ht (by decide) (by decide) rfl) hI.l
    · exact lay_num h3 (holds_block ht (by decide) (by decide) rfl) hI.c
    · exact lay_dig h4 (holds_block ht (by decide) (by decide) rfl)
    · exact lay_num h5 (holds_block ht (by decide) (by decide) rfl) hI.p
  · simp only [List.mem_cons, List.not_mem_nil, or_false] at hq
    rcases hq with rfl | rfl | rfl | rfl | rfl | rfl <;> first | exact numP_ne _ | (show binP _ ≠ []; rw [binP]; simp [headP_ne])
  · simp
  · simp [psP, toldP, numLD, digLD, msgF, numZ]
  · simp [psOk, toldP, numLD, digLD]
  · simp only [psMx_cons, psMx_nil, numLD, digLD]
/-- what the program's own tables, and reflectlite, want of memory -/
structure GlobW (w : World) : Prop where
  p : Pk.Glob w
  u : GlobU w
theorem GlobW.next {w w' : World} (h : GlobW w) (hb : Below w.heap.size w w') : GlobW w' := ⟨h.p.next hb, h.u.next hb⟩
theorem HoldsL.of_strs {w w2 : World} {L : List (List UInt8)} {ao : Option Addr} (h : Strs ao L w) (hb : Below w.heap.size w w2) {B : Nat} (hB : w.heap.size ≤ B) : HoldsL B w2 encS L ao := by
  rcases h with h | ⟨b, off, h1, h2, h3⟩
  · exact .inl h
  · refine .inr ⟨b, off, h1, fun w3 hS i x hx => ?_⟩
    obtain ⟨hi, rfl⟩ := List.getElem?_eq_some_iff.1 hx
    have e : w3.heap[b]? = w.heap[b]? := (hS.b b (by omega) (Nat.lt_of_lt_of_le h2 hb.size)).trans (hb.block b h2)
    exact (World.cell?_of_block (a := ⟨b, off + i, none⟩) e).trans (h3 i hi)
end Go.Proofs.YtlhmmplkdjibkaaGreatDoor
/- Part, Slot, Cert, Msg, Header of the program: what they lay. -/
namespace Go.Proofs.YtlhmmplkdjibkaaGreatDoor
open Go.RowKit

/-- numbers, Reveals in memory -/
def Nums (ao : Option Addr) (L : List Nat) (w : World) : Prop := L = [] ∨ ∃ b off, ao = some ⟨b, off, none⟩ ∧ b < w.heap.size ∧ ∀ i (h : i < L.length), w.cell? ⟨b, off + i, none⟩ = some (.int .u64 (L[i] : Int))
def Revs (ao : Option Addr) (L : List RevE) (w : World) : Prop := L = [] ∨ ∃ b off, ao = some ⟨b, off, none⟩ ∧ b < w.heap.size ∧ ∀ i x, L[i]? = some x → ∀ j, j < 11 → w.cell? ⟨b, off + (i * 11 + j), none⟩ = (revQ x)[j]?
theorem HoldsL.of_nums {w w2 : World} {L : List Nat} {ao : Option Addr} (h : Nums ao L w) (hb : Below w.heap.size w w2) {B : Nat} (hB : w.heap.size ≤ B) : HoldsL B w2 encN L ao := by
  rcases h with h | ⟨b, off, h1, h2, h3⟩
  · exact .inl h
  · refine .inr ⟨b, off, h1, fun w3 hS i x hx => ?_⟩
    obtain ⟨hi, rfl⟩ := List.getElem?_eq_some_iff.1 hx
    have e : w3.heap[b]? = w.heap[b]? := (hS.b b (by omega) (Nat.lt_of_lt_of_le h2 hb.size)).trans (hb.block b h2)
    exact (World.cell?_of_block (a := ⟨b, off + i, none⟩) e).trans (h3 i hi)
theorem HoldsR.of_revs {w w2 : World} {L : List RevE} {ao : Option Addr} (h : Revs ao L w) (hb : Below w.heap.size w w2) {B : Nat} (hB : w.heap.size ≤ B) : HoldsR B w2 L ao := by
  rcases h with h | ⟨b, off, h1, h2, h3⟩
  · exact .inl h
  · refine .inr ⟨b, off, h1, fun w3 hS i x hx j hj => ?_⟩
    have e : w3.heap[b]? = w.heap[b]? := (hS.b b (by omega) (Nat.lt_of_lt_of_le h2 hb.size)).trans (hb.block b h2)
    exact (World.cell?_of_block (a := ⟨b, off + (i * 11 + j), none⟩) e).trans (h3 i x hx j hj)
/-- a Slot's, a Cert's lists -/
structure SlotM (x : SlotE) (w : World) : Prop where
  ws : Strs x.wa x.r.sig.wots w
  ps : Strs x.pa x.r.sig.path w
structure CertM (c : CertE) (w : World) : Prop where
  r : Revs c.ra c.rl w
  x : ∀ x ∈ c.rl, Strs x.wa x.r.slot.sig.wots w ∧ Strs x.pa x.r.slot.sig.path w
  co : Nums c.ca c.coins w
  s : Strs c.sa c.sp w
  p : Strs c.pa c.pp w
theorem slot_holds {w w2 : World} {x : SlotE} {t : Nat} (h : SlotM x w) (hb : Below w.heap.size w w2) {B : Nat} (hB : w.heap.size ≤ B) (ht : w2.heap[t]? = some (.cells (slotQ x).toArray 53 (0, 0))) : SlotH B w2 t 0 x.r :=
  ⟨holds_block ht (by decide) (by decide) rfl, holds_block ht (by decide) (by decide) rfl, ⟨holds_block ht (by decide) (by decide) rfl, ⟨x.wa, x.wc, holds_block ht (by decide) (by decide) rfl, HoldsL.of_strs h.ws hb hB⟩, ⟨x.pa, x.pc, holds_block ht (by decide) (by decide) rfl, HoldsL.of_strs h.ps hb hB⟩⟩⟩
theorem cert_holds {w w2 : World} {c : CertE} (h : CertM c w) (hb : Below w.heap.size w w2) {B : Nat} (hB : w.heap.size ≤ B) : CertH B w2 c :=
  ⟨⟨HoldsR.of_revs h.r hb hB, fun x hx => ⟨HoldsL.of_strs (h.x x hx).1 hb hB, HoldsL.of_strs (h.x x hx).2 hb hB⟩⟩, HoldsL.of_nums h.co hb hB, HoldsL.of_strs h.s hb hB, HoldsL.of_strs h.p hb hB⟩
theorem part_holds {B : Nat} {w2 : World} {p : PartR} {t : Nat} (ht : w2.heap[t]? = some (.cells (partQ p).toArray 55 (0, 0))) : PartH B w2 t 0 p :=
  ⟨holds_block ht (by decide) (by decide) rfl, holds_block ht (by decide) (by decide) rfl, holds_block ht (by decide) (by decide) rfl, holds_block ht (by decide) (by decide) rfl, holds_block ht (by decide) (by decide) rfl⟩

set_option maxRecDepth 100000 in
set_option maxHeartbeats 1000000 in
theorem wpart_any (x : PartR) (w : World) (hG : GlobW w) (hI : PartIn x) :
    Calls Tryz.prog 37 #[partV x] w fun e w' => e = .returned (.tuple #[.string ⟨(layPartP x).1.toArray⟩, .int .i64 (layPartP x).2]) ∧ Below w.heap.size w w' := by
  have HG := Lib.hid hG
  have HI := Lib.hid hI
  have HN := Lib.hid (heap_alloc_new w (.cells (partQ x).toArray 55))
  have HB := Lib.hid (by0 w (.cells (partQ x).toArray 55))
  have HR := Lib.hid (part_mk w.heap.size w.heap.size 0 (w.alloc (.cells (partQ x).toArray 55)) (by simp))
  clear hG hI
  go_enter Tryz.func37, Tryz.ntmps37
  go_upto_region 1 with fail
  change Code.wp _ _ _ _ (w.alloc (.cells (partQ x).toArray 55))
  generalize w.alloc (.cells (partQ x).toArray 55) = w1 at *
  go_wp2_with (first | (go_at_call 80; refine HR.out.mono ?_; rintro e w2 ⟨fb, fs, rfl, hK, hb2⟩; have hb02 := HB.out.trans (hb2.mono HB.out.size); have ht2 := (hb2.block w.heap.size (lit_lt HN.out)).trans HN.out; obtain ⟨ps, hps⟩ := part_row (B := w2.heap.size + 1 + 1) hK x (part_holds ht2) HI.out; have hr : RowB fb 0 (ps.map (·.1)) w2 := (by rw [← hps.fs]; exact hK.r.row); have HF0 := flay_any ps fb 0 5 w2 (HG.out.next hb02).p (HG.out.next hb02).u.e hps.r hr (lit_lt hK.r) (by rw [hps.m]; decide); rw [hps.p, hps.o, hps.n] at HF0; have HF := Lib.hid HF0; have HB02 := Lib.hid hb02; clear hK hb2 hb02 ht2 hps hr HF0) | (go_at_call 15; refine HF.out.mono ?_; rintro e w3 ⟨rfl, hb3⟩))
  refine bodyPost_ret (v := .tuple #[.string ⟨(layPartP x).1.toArray⟩, .int .i64 (layPartP x).2]) (by simp [results, Tryz.results37, go_sem, layPartP]) rfl ⟨rfl, HB02.out.trans (hb3.mono HB02.out.size)⟩

set_option maxRecDepth 100000 in
set_option maxHeartbeats 1000000 in
theorem wslot_any (x : SlotE) (w : World) (hG : GlobW w) (hI : SlotIn x.r) (hM : SlotM x w) :
    Calls Tryz.prog 38 #[slotV x] w fun e w' => e = .returned (.tuple #[.string ⟨(laySlotP x.r).1.toArray⟩, .int .i64 (laySlotP x.r).2]) ∧ Below w.heap.size w w' := by
  have HG := Lib.hid hG
  have HI := Lib.hid hI
  have HM := Lib.hid hM
  have HN := Lib.hid (heap_alloc_new w (.cells (slotQ x).toArray 53))
  have HB := Lib.hid (by0 w (.cells (slotQ x).toArray 53))
  have HR := Lib.hid (slot_mk w.heap.size w.heap.size 0 (w.alloc (.cells (slotQ x).toArray 53)) (by simp))
  clear hG hI hM
  go_enter Tryz.func38, Tryz.ntmps38
  go_upto_region 1 with fail
  change Code.wp _ _ _ _ (w.alloc (.cells (slotQ x).toArray 53))
  generalize w.alloc (.cells (slotQ x).toArray 53) = w1 at *
  go_wp2_with (first | (go_at_call 81; refine HR.out.mono ?_; rintro e w2 ⟨fb, fs, rfl, hK, hb2⟩; have hb02 := HB.out.trans (hb2.mono HB.out.size); have ht2 := (hb2.block w.heap.size (lit_lt HN.out)).trans HN.out; obtain ⟨ps, hps⟩ := slot_row (B := w2.heap.size + 1 + 1) hK x.r (slot_holds HM.out hb02 (by have := hb02.size; omega) ht2) HI.out; have hr : RowB fb 0 (ps.map (·.1)) w2 := (by rw [← hps.fs]; exact hK.r.row); have HF0 := flay_any ps fb 0 3 w2 (HG.out.next hb02).p (HG.out.next hb02).u.e hps.r hr (lit_lt hK.r) (by rw [hps.m]; decide); rw [hps.p, hps.o, hps.n] at HF0; have HF := Lib.hid HF0; have HB02 := Lib.hid hb02; clear hK hb2 hb02 ht2 hps hr HF0) | (go_at_call 15; refine HF.out.mono ?_; rintro e w3 ⟨rfl, hb3⟩))
  refine bodyPost_ret (v := .tuple #[.string ⟨(laySlotP x.r).1.toArray⟩, .int .i64 (laySlotP x.r).2]) (by simp [results, Tryz.results38, go_sem, laySlotP]) rfl ⟨rfl, HB02.out.trans (hb3.mono HB02.out.size)⟩

set_option maxRecDepth 100000 in
set_option maxHeartbeats 1000000 in
theorem wcert_any (x : CertE) (w : World) (hG : GlobW w) (hI : CertIn x) (hM : CertM x w) :
    Calls Tryz.prog 5 #[certV x] w fun e w' => e = .returned (.tuple #[.string ⟨(layCertP x.r).1.toArray⟩, .int .i64 (layCertP x.r).2]) ∧ Below w.heap.size w w' := by
  have HG := Lib.hid hG
  have HI := Lib.hid hI
  have HM := Lib.hid hM
  have HN := Lib.hid (heap_alloc_new w (.cells (certQ x).toArray 27))
  have HB := Lib.hid (by0 w (.cells (certQ x).toArray 27))
  have HR := Lib.hid (cert_mk w.heap.size w.heap.size 0 (w.alloc (.cells (certQ x).toArray 27)) (by simp))
  clear hG hI hM
  go_enter Tryz.func5, Tryz.ntmps5
  go_upto_region 1 with fail
  change Code.wp _ _ _ _ (w.alloc (.cells (certQ x).toArray 27))
  generalize w.alloc (.cells (certQ x).toArray 27) = w1 at *
  go_wp2_with (first | (go_at_call 16; refine HR.out.mono ?_; rintro e w2 ⟨fb, fs, rfl, hK, hb2⟩; have hb02 := HB.out.trans (hb2.mono HB.out.size); have ht2 := (hb2.block w.heap.size (lit_lt HN.out)).trans HN.out; obtain ⟨th, ps, hps⟩ := cert_row (B := w2.heap.size + 1 + 1) hK x ht2 (cert_holds HM.out hb02 (by have := hb02.size; omega)) HI.out; have hr : RowB fb 0 (ps.map (·.1)) w2 := (by rw [← hps.fs]; exact hK.r.row); have HF0 := flay_any ps fb 0 6 w2 (HG.out.next hb02).p (HG.out.next hb02).u.e hps.r hr (lit_lt hK.r) (by rw [hps.m]; decide); rw [hps.p, hps.o, hps.n] at HF0; have HF := Lib.hid HF0; have HB02 := Lib.hid hb02; clear hK hb2 hb02 ht2 hps hr HF0) | (go_at_call 15; refine HF.out.mono ?_; rintro e w3 ⟨rfl, hb3⟩))
  refine bodyPost_ret (v := .tuple #[.string ⟨(layCertP x.r).1.toArray⟩, .int .i64 (layCertP x.r).2]) (by simp [results, Tryz.results5, go_sem, layCertP]) rfl ⟨rfl, HB02.out.trans (hb3.mono HB02.out.size)⟩

set_option maxRecDepth 100000 in
set_option maxHeartbeats 1000000 in
theorem wmsg_any (x : MsgR) (w : World) (hG : GlobW w) (hI : MsgIn x) :
    Calls Tryz.prog 39 #[msgV x] w fun e w' => e = .returned (.tuple #[.string ⟨(layMsgP x).1.toArray⟩, .int .i64 (layMsgP x).2]) ∧ Below w.heap.size w w' := by
  have HG := Lib.hid hG
  have HI := Lib.hid hI
  have HN := Lib.hid (heap_alloc_new w (.cells (msgQ x).toArray 93))
  have HB := Lib.hid (by0 w (.cells (msgQ x).toArray 93))
  have HR := Lib.hid (msg_mk w.heap.size w.heap.size 0 (w.alloc (.cells (msgQ x).toArray 93)) (by simp))
  clear hG hI
  go_enter Tryz.func39, Tryz.ntmps39
  go_upto_region 1 with fail
  change Code.wp _ _ _ _ (w.alloc (.cells (msgQ x).toArray 93))
  generalize w.alloc (.cells (msgQ x).toArray 93) = w1 at *
  go_wp2_with (first | (go_at_call 82; refine HR.out.mono ?_; rintro e w2 ⟨fb, fs, rfl, hK, hb2⟩; have hb02 := HB.out.trans (hb2.mono HB.out.size); have ht2 := (hb2.block w.heap.size (lit_lt HN.out)).trans HN.out; obtain ⟨th, ps, hps⟩ := msg_row (B := w2.heap.size + 1 + 1) hK x ht2 HI.out; have hr : RowB fb 0 (ps.map (·.1)) w2 := (by rw [← hps.fs]; exact hK.r.row); have HF0 := flay_any ps fb 0 6 w2 (HG.out.next hb02).p (HG.out.next hb02).u.e hps.r hr (lit_lt hK.r) (by rw [hps.m]; decide); rw [hps.p, hps.o, hps.n] at HF0; have HF := Lib.hid HF0; have HB02 := Lib.hid hb02; clear hK hb2 hb02 ht2 hps hr HF0) | (go_at_call 15; refine HF.out.mono ?_; rintro e w3 ⟨rfl, hb3⟩))
  refine bodyPost_ret (v := .tuple #[.string ⟨(layMsgP x).1.toArray⟩, .int .i64 (layMsgP x).2]) (by simp [results, Tryz.results39, go_sem, layMsgP]) rfl ⟨rfl, HB02.out.trans (hb3.mono HB02.out.size)⟩

end Go.Proofs.YtlhmmplkdjibkaaGreatDoor
/- What a field's reading does, by its kind. -/
namespace Go.Proofs.YtlhmmplkdjibkaaGreatDoor
open Go.RowKit

/-- how a number, a digest, a yes, a list lies in a thing -/
def NumL {ρ : Type} (rb t o : Nat) (T : TypeId) (Rp : ρ → World → Prop) (of : ρ → Nat) (set : ρ → Nat → ρ) : Prop := ∀ p w, Rp p w → ∃ cs, w.heap[t]? = some (.cells cs T (0, 0)) ∧ cs[o]? = some (.int .u64 (of p : Int)) ∧ ∀ (v : Nat) w', Duo rb t w w' → w'.heap[t]? = some (.cells (cs.setIfInBounds o (.int .u64 (v : Int))) T (0, 0)) → Rp (set p v) w'
def DigL {ρ : Type} (rb t o : Nat) (T : TypeId) (Rp : ρ → World → Prop) (of : ρ → (List UInt8)) (set : ρ → (List UInt8) → ρ) : Prop := ∀ p w, Rp p w → ∃ cs, w.heap[t]? = some (.cells cs T (0, 0)) ∧ cs[o]? = some (.string ⟨(of p).toArray⟩) ∧ ∀ (v : (List UInt8)) w', Duo rb t w w' → w'.heap[t]? = some (.cells (cs.setIfInBounds o (.string ⟨v.toArray⟩)) T (0, 0)) → Rp (set p v) w'
def YesL {ρ : Type} (rb t o : Nat) (T : TypeId) (Rp : ρ → World → Prop) (of : ρ → Bool) (set : ρ → Bool → ρ) : Prop := ∀ p w, Rp p w → ∃ cs, w.heap[t]? = some (.cells cs T (0, 0)) ∧ cs[o]? = some (.bool (of p)) ∧ ∀ (v : Bool) w', Duo rb t w w' → w'.heap[t]? = some (.cells (cs.setIfInBounds o (.bool v)) T (0, 0)) → Rp (set p v) w'
def ListL {ρ α : Type} (E sz : Nat) (Rel : List α → List Value → World → Prop) (rb t o : Nat) (T : TypeId) (Rp : ρ → World → Prop) (of : ρ → List α) (set : ρ → List α → ρ) : Prop := ∀ p w, Rp p w → ∃ cs ao cp, w.heap[t]? = some (.cells cs T (0, 0)) ∧ cs[o]? = some (.slice ao (of p).length cp) ∧ (of p = [] → ao = none ∧ cp = 0) ∧ ∀ (l : List α) v xs w', Duo rb t w w' → w'.heap[t]? = some (.cells (cs.setIfInBounds o v) T (0, 0)) → w'.ownsRow (w.heap.size + 1) E sz v l.length xs → (Rel l xs w' ∧ Emp l v) → Rp (set p l) w'
theorem set_self {cs : Array Value} {o : Nat} {v : Value} (h : cs[o]? = some v) : cs.setIfInBounds o v = cs := by
  apply Array.ext_getElem?
  intro j
  rw [Array.getElem?_setIfInBounds]
  split
  · rename_i e; subst e
    rw [h, if_pos (Array.getElem?_eq_some_iff.1 h).1]
  · rfl
theorem Stored.duo {rb t o : Nat} {S : (List UInt8)} {a k : Nat} {v : Value} {w : World} {e : Ending} {w' : World} {cs : Array Value} {T : TypeId} (h : Stored rb t o S a k v w e w') (hrt : t ≠ rb) (ht : w.heap[t]? = some (.cells cs T (0, 0))) : e = .returned (.tuple #[]) ∧ w'.heap[t]? = some (.cells (cs.setIfInBounds o v) T (0, 0)) ∧ RQ rb S (a + k) 10240 w' ∧ Duo rb t w w' := by
  obtain ⟨h0, w1, rfl, hr, ho⟩ := h
  exact ⟨h0, lit_set _ ((ho.block t (lit_lt ht) hrt).trans ht), ⟨(lit_far v (fun e => hrt e.symm)).trans hr.r, hr.m⟩, (Duo.only ho).trans (Duo.only2 (Only.set t o v w1))⟩

def numRd (left : (List UInt8)) (a : Nat) : Res (Option Nat) := match takeE 0 left a with
  | .error f => .error f
  | .ok ((n, _), k) => .ok (if n = 0 then none else some n, k)
def digRd (left : (List UInt8)) (a : Nat) : Res (Option (List UInt8)) := match takeE 1 left a with
  | .error f => .error f
  | .ok ((_, t), k) => if digB t then .ok (some t, k) else .error (5, 0)
def yesRd (left : (List UInt8)) (a : Nat) : Res (Option Bool) := match takeE 0 left a with
  | .error f => .error f
  | .ok ((n, _), k) => .ok (if n = 1 then some true else none, k)
theorem step_num {ρ : Type} (c : UInt8) (kb : Nat) (of : ρ → Nat) (set : ρ → Nat → ρ) (p : ρ) (left : (List UInt8)) (a : Nat) : RW.step ⟨numFV c kb, numFld c of set, numRd⟩ p left a = match takeE 0 left a with
    | .error f => .error f
    | .ok ((n, _), k) => .ok (if n = 0 then p else set p n, k) := by
  unfold RW.step numRd
  dsimp only
  cases takeE 0 left a with
  | error f => rfl
  | ok q =>
    obtain ⟨⟨n, t⟩, k⟩ := q
    dsimp only
    by_cases h : n = 0
    · rw [if_pos h, if_pos h]
    · rw [if_neg h, if_neg h]; rfl
theorem step_yes {ρ : Type} (c : UInt8) (kb : Nat) (of : ρ → Bool) (set : ρ → Bool → ρ) (p : ρ) (left : (List UInt8)) (a : Nat) : RW.step ⟨yesFV c kb, yesFld c of set, yesRd⟩ p left a = match takeE 0 left a with
    | .error f => .error f
    | .ok ((n, _), k) => .ok (if n = 1 then set p true else p, k) := by
  unfold RW.step yesRd
  dsimp only
  cases takeE 0 left a with
  | error f => rfl
  | ok q =>
    obtain ⟨⟨n, t⟩, k⟩ := q
    dsimp only
    by_cases h : n = 1
    · rw [if_pos h, if_pos h]; rfl
    · rw [if_neg h, if_neg h]
theorem step_dig {ρ : Type} (c : UInt8) (kb : Nat) (of : ρ → (List UInt8)) (set : ρ → (List UInt8) → ρ) (p : ρ) (left : (List UInt8)) (a : Nat) : RW.step ⟨digFV c kb, digFld c of set, digRd⟩ p left a = match takeE 1 left a with
    | .error f => .error f
    | .ok ((_, t), k) => if digB t then .ok (set p t, k) else .error (5, 0) := by
  unfold RW.step digRd
  dsimp only
  cases takeE 1 left a with
  | error f => rfl
  | ok q =>
    obtain ⟨⟨n, t⟩, k⟩ := q
    dsimp only
    by_cases h : digB t = true
    · rw [if_pos h, if_pos h]; rfl
    · rw [if_neg h, if_neg h]
theorem duo_cap {rb t lo k : Nat} {v : Value} {ty : TypeId} {w0 w : World} (hd : Duo rb t w0 w) (hk : New lo k v ty w0) (hlo : rb < lo ∧ t < lo) : w.cell? ⟨k, 0, none⟩ = some v :=
  kCell ((hd.block k (lit_lt hk.2) (by have := hk.1; omega) (by have := hk.1; omega)).trans hk.2)

theorem read_num {ρ : Type} {w0 : World} {rb t : Nat} {S : (List UInt8)} {Rp : ρ → World → Prop} {lo kb o : Nat} {T : TypeId} {c : UInt8} {of : ρ → Nat} {set : ρ → Nat → ρ} (hk : New lo kb (.pointer (some ⟨t, o, none⟩)) 117 w0) (hlo : rb < lo ∧ t < lo) (hrt : t ≠ rb) (hS : S.length ≤ 1000000)
    (hL : NumL rb t o T Rp of set) (hz : ∀ p, of p = 0 → set p 0 = p) : ReadF w0 rb t S Rp ⟨numFV c kb, numFld c of set, numRd⟩ where
  key := rfl
  tE := fun _ _ => by kernel_rfl
  rE := fun _ _ => by kernel_rfl
  get left a := by
    show numG left a = _
    unfold numG numRd
    dsimp only
    cases takeE 0 left a with
    | error f => rfl
    | ok q =>
      obtain ⟨⟨n, t⟩, k⟩ := q
      simp only
      by_cases h : n = 0
      · rw [if_pos h, if_pos h]; rfl
      · rw [if_neg h, if_neg h]; rfl
  there w p hd hp := by
    obtain ⟨cs, h1, h2, _⟩ := hL p w hp
    have e : ((numFld c of set).view p).isSome = (of p != 0) := by
      show (if of p = 0 then none else some (of p)).isSome = _
      by_cases h : of p = 0 <;> simp [h]
    rw [e]
    exact number1_any kb t o (of p) w (duo_cap hd hk hlo) ((lit_cell h1 o).trans h2)
  read w p a hd hg hp hv hr ha := by
    obtain ⟨cs, h1, h2, h3⟩ := hL p w hp
    have hz0 : of p = 0 := by
      by_cases h : of p = 0
      · exact h
      · exfalso
        have : (if of p = 0 then none else some (of p)) = none := hv
        rw [if_neg h] at this; cases this
    have hkn : kb ≠ rb ∧ t ≠ rb ∧ kb ≠ t := by have := hk.1; omega
    obtain ⟨P, hP⟩ : ∃ P, takeP (S.drop a) 10240 0 = P := ⟨_, rfl⟩
    obtain ⟨hT, _, hle⟩ := took4 S a 0 ha P hP
    show Calls _ _ _ w (Read rb t S Rp a w.heap.size w (RW.step ⟨numFV c kb, numFld c of set, numRd⟩ p (S.drop a) a))
    rw [step_num, hT]
    by_cases hc : P.c = 0
    · rw [if_pos hc]
      refine (number3_ok rb kb t o S a P _ w ⟨hr, hg, hS, ha⟩ hP hc (duo_cap hd hk hlo) ((lit_cell h1 o).trans h2) (lit_free h1 o) hkn).mono ?_
      intro e w' hst
      obtain ⟨k1, k2, k3, k4⟩ := hst.duo hrt h1
      have hR := h3 P.n w' k4 k2
      by_cases hn : P.n = 0
      · simp only [hn, if_true]
        rw [hn, hz p hz0] at hR
        exact ⟨k1, hR, k3, hle, k4⟩
      · simp only [hn, if_false]
        exact ⟨k1, hR, k3, hle, k4⟩
    · rw [if_neg hc]
      refine (number3_bad rb kb t o P.c a _ w (fun w1 hb => rnumber_bad rb S a P w1 ((RdS.mk hr hg hS ha).next hb) hP hc) (duo_cap hd hk hlo) ((lit_cell h1 o).trans h2) (lit_free h1 o)).mono ?_
      rintro e w' ⟨hu, ho⟩
      exact ⟨hc, hu, Duo.only ho, _, h3 (of p) w' (Duo.only ho) (((ho.block t (lit_lt h1) hrt).trans h1).trans (by rw [set_self h2]))⟩
theorem read_yes {ρ : Type} {w0 : World} {rb t : Nat} {S : (List UInt8)} {Rp : ρ → World → Prop} {lo kb o : Nat} {T : TypeId} {c : UInt8} {of : ρ → Bool} {set : ρ → Bool → ρ} (hk : New lo kb (.pointer (some ⟨t, o, none⟩)) 230 w0) (hlo : rb < lo ∧ t < lo) (hrt : t ≠ rb) (hS : S.length ≤ 1000000)
    (hL : YesL rb t o T Rp of set) (hz : ∀ p, of p = false → set p false = p) : ReadF w0 rb t S Rp ⟨yesFV c kb, yesFld c of set, yesRd⟩ where
  key := rfl
  tE := fun _ _ => by kernel_rfl
  rE := fun _ _ => by kernel_rfl
  get left a := by
    show yesG left a = _
    unfold yesG yesRd
    dsimp only
    cases takeE 0 left a with
    | error f => rfl
    | ok q =>
      obtain ⟨⟨n, t⟩, k⟩ := q
      simp only
      by_cases h : n = 1
      · rw [if_pos h, if_pos h]; rfl
      · rw [if_neg h, if_neg h]; rfl
  there w p hd hp := by
    obtain ⟨cs, h1, h2, _⟩ := hL p w hp
    have e : ((yesFld c of set).view p).isSome = of p := by
      show (if of p then some true else none).isSome = _
      cases of p <;> rfl
    rw [e]
    exact yes1_any kb t o (of p) w (duo_cap hd hk hlo) ((lit_cell h1 o).trans h2)
  read w p a hd hg hp hv hr ha := by
    obtain ⟨cs, h1, h2, h3⟩ := hL p w hp
    have hz0 : of p = false := by
      cases h : of p with
      | false => rfl
      | true =>
        exfalso
        have : (if of p then some true else none) = none := hv
        rw [h] at this; cases this
    have hkn : kb ≠ rb ∧ t ≠ rb ∧ kb ≠ t := by have := hk.1; omega
    obtain ⟨P, hP⟩ : ∃ P, takeP (S.drop a) 10240 0 = P := ⟨_, rfl⟩
    obtain ⟨hT, _, hle⟩ := took4 S a 0 ha P hP
    show Calls _ _ _ w (Read rb t S Rp a w.heap.size w (RW.step ⟨yesFV c kb, yesFld c of set, yesRd⟩ p (S.drop a) a))
    rw [step_yes, hT]
    by_cases hc : P.c = 0
    · rw [if_pos hc]
      refine (yes3_ok rb kb t o S a P _ w ⟨hr, hg, hS, ha⟩ hP hc (duo_cap hd hk hlo) ((lit_cell h1 o).trans h2) (lit_free h1 o) hkn).mono ?_
      intro e w' hst
      obtain ⟨k1, k2, k3, k4⟩ := hst.duo hrt h1
      have hR := h3 (P.n == 1) w' k4 k2
      by_cases hn : P.n = 1
      · simp only [hn, if_true]
        rw [hn] at hR
        exact ⟨k1, hR, k3, hle, k4⟩
      · simp only [hn, if_false]
        rw [show (P.n == 1) = false by simpa using hn, hz p hz0] at hR
        exact ⟨k1, hR, k3, hle, k4⟩
    · rw [if_neg hc]
      refine (yes3_bad rb kb t o P.c a _ w (fun w1 hb => rnumber_bad rb S a P w1 ((RdS.mk hr hg hS ha).next hb) hP hc) (duo_cap hd hk hlo) ((lit_cell h1 o).trans h2) (lit_free h1 o)).mono ?_
      rintro e w' ⟨hu, ho⟩
      exact ⟨hc, hu, Duo.only ho, _, h3 (of p) w' (Duo.only ho) (((ho.block t (lit_lt h1) hrt).trans h1).trans (by rw [set_self h2]))⟩
theorem read_dig {ρ : Type} {w0 : World} {rb t : Nat} {S : (List UInt8)} {Rp : ρ → World → Prop} {lo kb o : Nat} {T : TypeId} {c : UInt8} {of : ρ → (List UInt8)} {set : ρ → (List UInt8) → ρ} (hk : New lo kb (.pointer (some ⟨t, o, none⟩)) 110 w0) (hlo : rb < lo ∧ t < lo) (hrt : t ≠ rb) (hS : S.length ≤ 1000000)
    (hL : DigL rb t o T Rp of set) : ReadF w0 rb t S Rp ⟨digFV c kb, digFld c of set, digRd⟩ where
  key := rfl
  tE := fun _ _ => by kernel_rfl
  rE := fun _ _ => by kernel_rfl
  get left a := by
    show digG left a = _
    unfold digG digRd
    dsimp only
    cases takeE 1 left a with
    | error f => rfl
    | ok q =>
      obtain ⟨⟨n, t⟩, k⟩ := q
      simp only
      by_cases h : digB t = true
      · rw [if_pos h, if_pos h]; rfl
      · rw [if_neg h, if_neg h]; rfl
  there w p hd hp := by
    obtain ⟨cs, h1, h2, _⟩ := hL p w hp
    have e : ((digFld c of set).view p).isSome = !(of p).isEmpty := by
      show (if of p = [] then none else some (of p)).isSome = _
      cases of p <;> rfl
    rw [e]
    exact digest1_any kb t o (of p) w (duo_cap hd hk hlo) ((lit_cell h1 o).trans h2)
  read w p a hd hg hp hv hr ha := by
    obtain ⟨cs, h1, h2, h3⟩ := hL p w hp
    have hkn : kb ≠ rb ∧ t ≠ rb ∧ kb ≠ t := by have := hk.1; omega
    obtain ⟨P, hP⟩ : ∃ P, takeP (S.drop a) 10240 1 = P := ⟨_, rfl⟩
    obtain ⟨hT, _, hle⟩ := took4 S a 1 ha P hP
    show Calls _ _ _ w (Read rb t S Rp a w.heap.size w (RW.step ⟨digFV c kb, digFld c of set, digRd⟩ p (S.drop a) a))
    rw [step_dig, hT]
    by_cases hc : P.c = 0
    · rw [if_pos hc]
      by_cases hl : P.t.length = 32
      · have hd1 : digB P.t = true := by simp [digB, hl]
        simp only [hd1, if_true]
        refine (digest3_ok rb kb t o S a P _ w ⟨hr, hg, hS, ha⟩ hP hc hl (duo_cap hd hk hlo) ((lit_cell h1 o).trans h2) (lit_free h1 o) hkn).mono ?_
        intro e w' hst
        obtain ⟨k1, k2, k3, k4⟩ := hst.duo hrt h1
        exact ⟨k1, h3 P.t w' k4 k2, k3, hle, k4⟩
      · have hd1 : digB P.t = false := by simp [digB, hl]
        simp only [hd1, Bool.false_eq_true, if_false]
        refine (digest3_bad rb kb t o 5 0 _ w (fun w1 hb => rdigest_len rb S a P w1 ((RdS.mk hr hg hS ha).next hb) hP hc hl) (duo_cap hd hk hlo) ((lit_cell h1 o).trans h2) (lit_free h1 o)).mono ?_
        rintro e w' ⟨hu, ho⟩
        exact ⟨by decide, hu, Duo.only ho, _, h3 (of p) w' (Duo.only ho) (((ho.block t (lit_lt h1) hrt).trans h1).trans (by rw [set_self h2]))⟩
    · rw [if_neg hc]
      refine (digest3_bad rb kb t o P.c a _ w (fun w1 hb => rdigest_bad rb S a P w1 ((RdS.mk hr hg hS ha).next hb) hP hc) (duo_cap hd hk hlo) ((lit_cell h1 o).trans h2) (lit_free h1 o)).mono ?_
      rintro e w' ⟨hu, ho⟩
      exact ⟨hc, hu, Duo.only ho, _, h3 (of p) w' (Duo.only ho) (((ho.block t (lit_lt h1) hrt).trans h1).trans (by rw [set_self h2]))⟩
end Go.Proofs.YtlhmmplkdjibkaaGreatDoor
