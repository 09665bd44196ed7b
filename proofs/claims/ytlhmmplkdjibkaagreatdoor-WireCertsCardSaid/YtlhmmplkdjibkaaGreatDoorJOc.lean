/- A certificate that came in by value: opened. -/
import Derived.Test.YtlhmmplkdjibkaaGreatDoorJ19
import Derived.Test.YtlhmmplkdjibkaaGreatDoorJKq
namespace Go.Proofs.YtlhmmplkdjibkaaGreatDoor
open Go.ChangeShapes Go.WideShapes Go.ChangeAt Go.RowKit

theorem ocells_rev : Tryz.prog.cellsOf 57 = 11 := by kernel_rfl
theorem ocells_revs : Tryz.prog.cellsOf 23 = 1 := by kernel_rfl
theorem ocells_nums : Tryz.prog.cellsOf 24 = 1 := by kernel_rfl
theorem ocells_cert : Tryz.prog.cellsOf 27 = 6 := by kernel_rfl
/-- a Reveal that came in -/
structure RevT (x : RevE) (w : World) : Prop where
  n : x.r.pos < 18446744073709551616
  p : PartIn x.r.part
  s : SlotIn x.r.slot
  t : SlotT ⟨x.r.slot, x.wa, x.wc, x.pa, x.pc⟩ w
section
variable {H : Type} {enc : TypeId × Value → H} {W : World} {base : Nat} {spare : Nat → Bool} {held : Bool} {fuel : Nat} {cs : List Value} {y : DataW H × List MemPlace}
theorem cut11 (l : List Value) (h : l.length = 11) : l = (l.drop 0).take 1 ++ ((l.drop 1).take 5 ++ (l.drop 6).take 5) := by
  have h3 : (l.drop 6).take 5 = l.drop 6 := List.take_of_length_le (by rw [List.length_drop]; omega)
  have h2 : (l.drop 1).take 5 ++ l.drop 6 = l.drop 1 := by
    have k := List.take_append_drop 5 (l.drop 1)
    rw [List.drop_drop] at k
    exact k
  rw [h3, h2, List.drop_zero, List.take_append_drop]
theorem inner_rev (h : DataW.trod enc Tryz.prog W base spare held fuel 57 cs = some y) : ∃ x : RevE, cs = revQ x ∧ RevT x W := by
  obtain ⟨xs, m, _, rfl, hcl, hl, hy⟩ := DataW.trod_struct Tryz.underlying57 h
  rw [ocells_rev] at hcl
  obtain ⟨y0, y1, y2, rfl⟩ := olist3 xs hl
  obtain ⟨n, e0, w0⟩ := inner_num (hy 0 _ rfl)
  obtain ⟨x, e1, i1, j1⟩ := inner_slot (hy 1 _ rfl)
  obtain ⟨q, e2, i2, j2⟩ := inner_part (hy 2 _ rfl)
  replace e0 : (cs.drop 0).take (Tryz.prog.cellsOf 22) = [.int .u64 (n : Int)] := e0
  replace e1 : (cs.drop 1).take (Tryz.prog.cellsOf 53) = slotQ x := e1
  replace e2 : (cs.drop 6).take (Tryz.prog.cellsOf 55) = partQ q := e2
  rw [ocells_n] at e0
  rw [ocells_slot] at e1
  rw [ocells_part] at e2
  refine ⟨⟨⟨n, x.r, q⟩, x.wa, x.wc, x.pa, x.pc⟩, ?_, ⟨w0, i2, i1, j1⟩⟩
  have k := cut11 cs hcl
  rw [e0, e1, e2] at k
  exact k
theorem inner_revs (h : DataW.trod enc Tryz.prog W base spare held fuel 23 cs = some y) : ∃ (ao : Option Addr) (cp : Nat) (L : List RevE), cs = [.slice ao L.length cp] ∧ L.length ≤ maxLen ∧ (∀ x ∈ L, RevT x W) ∧ Revs ao L W := by
  rcases DataW.trod_slice Tryz.underlying23 h with ⟨hcs, hx⟩ | ⟨a, len, cap, elems, rest, m, _, hcs, hx, _, hl, hm, hz, he, _, _⟩
  · exact ⟨none, 0, [], hcs, Nat.zero_le _, fun x h => by simp at h, .inl rfl⟩
  · rw [ocells_rev] at he
    have hx : ∀ i, ∃ t : RevE, i < len → RevT t W ∧ ∀ j, j < 11 → W.cell? ((a.add (i * 11)).add j) = (revQ t)[j]? := by
      intro i
      by_cases hi : i < len
      · have k := he i hi
        rw [List.getElem?_eq_getElem (by omega)] at k
        obtain ⟨cs, k1, k2⟩ := Option.bind_eq_some_iff.1 k
        obtain ⟨x, e, hin⟩ := inner_rev k2
        obtain ⟨_, _, k3⟩ := World.cells?_some k1
        exact ⟨x, fun _ => ⟨hin, fun j hj => by rw [k3 j hj, e]⟩⟩
      · exact ⟨⟨zRev, none, 0, none, 0⟩, fun c => absurd c hi⟩
    obtain ⟨f, hf⟩ := Classical.axiomOfChoice hx
    refine ⟨some a, cap, (List.range len).map f, by rw [hcs]; simp, by simp; omega, fun x hx => ?_, ?_⟩
    · obtain ⟨i, hi, rfl⟩ := List.mem_map.1 hx
      exact (hf i (List.mem_range.1 hi)).1
    · by_cases h0 : len = 0
      · subst h0; exact .inl rfl
      · obtain ⟨b, off, sp⟩ := a
        have hc0 := (hf 0 (by omega)).2 0 (by omega)
        have hsp : sp = none := by
          cases sp with
          | none => rfl
          | some x =>
            exfalso
            have e : ((⟨b, off, some x⟩ : Addr).add (0 * 11)).add 0 = ⟨b, off, some x⟩ := rfl
            rw [e] at hc0
            unfold World.cell? at hc0
            split at hc0 <;> simp [revQ] at hc0
        subst hsp
        refine .inr ⟨b, off, rfl, ?_, fun i x hi j hj => ?_⟩
        · have e : ((⟨b, off, none⟩ : Addr).add (0 * 11)).add 0 = ⟨b, off, none⟩ := rfl
          rw [e] at hc0
          exact World.block_lt_of_cell? W _ hc0
        · obtain ⟨hi1, rfl⟩ := List.getElem?_eq_some_iff.1 hi
          have hi2 : i < len := by simpa using hi1
          have k := (hf i hi2).2 j hj
          rw [Addr.add_mid, Addr.add_mid, Nat.add_assoc] at k
          rw [k, List.getElem_map, List.getElem_range]
theorem inner_nums (h : DataW.trod enc Tryz.prog W base spare held fuel 24 cs = some y) : ∃ (ao : Option Addr) (cp : Nat) (L : List Nat), cs = [.slice ao L.length cp] ∧ L.length ≤ cp ∧ cp ≤ maxLen ∧ (∀ x ∈ L, x < 18446744073709551616) ∧ Nums ao L W := by
  rcases DataW.trod_slice Tryz.underlying24 h with ⟨hcs, hx⟩ | ⟨a, len, cap, elems, rest, m, _, hcs, hx, _, hl, hm, hz, he, _, _⟩
  · exact ⟨none, 0, [], hcs, Nat.le_refl _, Nat.zero_le _, fun x h => by simp at h, .inl rfl⟩
  · rw [ocells_n] at he
    have hx : ∀ i, ∃ t : Nat, i < len → t < 18446744073709551616 ∧ W.cell? (a.add i) = some (.int .u64 (t : Int)) := by
      intro i
      by_cases hi : i < len
      · have k := he i hi
        rw [List.getElem?_eq_getElem (by omega)] at k
        obtain ⟨cs, k1, k2⟩ := Option.bind_eq_some_iff.1 k
        obtain ⟨n, e, hin⟩ := inner_num k2
        obtain ⟨_, _, k3⟩ := World.cells?_some k1
        have k4 := k3 0 (by omega)
        rw [e, Nat.mul_one] at k4
        exact ⟨n, fun _ => ⟨hin, k4⟩⟩
      · exact ⟨0, fun c => absurd c hi⟩
    obtain ⟨f, hf⟩ := Classical.axiomOfChoice hx
    refine ⟨some a, cap, (List.range len).map f, by rw [hcs]; simp, by simp; omega, by omega, fun x hx => ?_, ?_⟩
    · obtain ⟨i, hi, rfl⟩ := List.mem_map.1 hx
      exact (hf i (List.mem_range.1 hi)).1
    · by_cases h0 : len = 0
      · subst h0; exact .inl rfl
      · obtain ⟨b, off, sp⟩ := a
        have hc0 := (hf 0 (by omega)).2
        have hsp : sp = none := by
          cases sp with
          | none => rfl
          | some x =>
            exfalso
            have e : ((⟨b, off, some x⟩ : Addr).add 0) = ⟨b, off, some x⟩ := rfl
            rw [e] at hc0
            unfold World.cell? at hc0
            split at hc0 <;> simp at hc0
        subst hsp
        refine .inr ⟨b, off, rfl, ?_, fun i hi => ?_⟩
        · have e : ((⟨b, off, none⟩ : Addr).add 0) = ⟨b, off, none⟩ := rfl
          rw [e] at hc0
          exact World.block_lt_of_cell? W _ hc0
        · have hi2 : i < len := by simpa using hi
          have k := (hf i hi2).2
          rw [Addr.add_mid] at k
          rw [k, List.getElem_map, List.getElem_range]
theorem inner_cert (h : DataW.trod enc Tryz.prog W base spare held fuel 27 cs = some y) : ∃ x : CertE, cs = certQ x ∧ CertP x.r ∧ CertM x W ∧ CertS x := by
  obtain ⟨xs, m, _, rfl, hcl, hl, hy⟩ := DataW.trod_struct Tryz.underlying27 h
  rw [ocells_cert] at hcl
  obtain ⟨c0, c1, c2, c3, c4, c5, rfl⟩ := olist6 cs hcl
  obtain ⟨y0, y1, y2, y3, y4, y5, rfl⟩ := olist6 xs hl
  obtain ⟨r, e0, w0⟩ := inner_txt (hy 0 _ rfl)
  obtain ⟨n, e1, w1⟩ := inner_num (hy 1 _ rfl)
  obtain ⟨ra, rc, rl, e2, a2, b2, d2⟩ := inner_revs (hy 2 _ rfl)
  obtain ⟨ca, cc, co, e3, a3, b3, d3, f3⟩ := inner_nums (hy 3 _ rfl)
  obtain ⟨sa, sc, sp, e4, a4, b4, d4⟩ := inner_strs (hy 4 _ rfl)
  obtain ⟨pa, pc, pp, e5, a5, b5, d5⟩ := inner_strs (hy 5 _ rfl)
  simp [ocells_n, cells9, ocells_l, ocells_revs, ocells_nums] at e0 e1 e2 e3 e4 e5
  subst e0 e1 e2 e3 e4 e5
  refine ⟨⟨r, n, rl, co, sp, pp, ra, rc, ca, cc, sa, sc, pa, pc⟩, rfl, ⟨w1, fun x hx => ?_, d3⟩, ⟨d2, fun x hx => ⟨(b2 x hx).t.m.ws, (b2 x hx).t.m.ps⟩, f3, d4, d5⟩, ⟨⟨a4, b4⟩, ⟨a5, b5⟩, ⟨a3, b3⟩, a2, fun x hx => ⟨(b2 x hx).t.wl, (b2 x hx).t.we⟩, fun x hx => ⟨(b2 x hx).t.pl, (b2 x hx).t.pe⟩⟩⟩
  obtain ⟨z, hz, rfl⟩ := List.mem_map.1 hx
  exact ⟨(b2 z hz).n, (b2 z hz).p, (b2 z hz).s.l, (b2 z hz).s.g.i⟩
end
set_option maxRecDepth 100000 in
theorem open_cert {H : Type} {enc : TypeId × Value → H} {W : World} {base : Nat} {v : Value} {dv : DataW H} {p : List MemPlace} (hv : Value.okWide Tryz.prog W .any base 27 v)
    (h : DataW.Trod enc Tryz.prog W 0 (fun _ => true) true 27 v dv p) : ∃ x : CertE, v = certV x ∧ CertP x.r ∧ CertM x W ∧ CertS x := by
  obtain ⟨cs, rfl, hsz⟩ := okWide_struct Tryz.underlying27 hv
  obtain ⟨l⟩ := cs
  obtain ⟨fuel, hf⟩ := h
  obtain ⟨x, e0, h1, h2, h3⟩ := inner_cert hf
  have e1 : l = certQ x := e0
  subst e1
  exact ⟨x, rfl, h1, h2, h3⟩
end Go.Proofs.YtlhmmplkdjibkaaGreatDoor
