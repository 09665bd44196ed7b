/- The law's WireCuts. -/
import Derived.Test.YtlhmmplkdjibkaaGreatDoorJ25
import Derived.Test.YtlhmmplkdjibkaaGreatDoorJ17
namespace Go.Proofs.YtlhmmplkdjibkaaGreatDoor
open Go.RowKit

theorem certTo_len (x : CertR) : (layCertP (certTo x)).1.length ≤ 60000 := layOr_len fun h => by
  unfold mayCertB at h
  simp only [Bool.and_eq_true, decide_eq_true_eq] at h
  obtain ⟨⟨⟨⟨⟨h0, h1⟩, h2⟩, h3⟩, h4⟩, h5⟩ := h
  have a := mapP_len (certF (certTo x))
  simp only [certF, List.map_cons, List.map_nil, List.sum_cons, List.sum_nil] at a ⊢
  have t1 : ∀ l : List (List UInt8), (textsTo l 20).length ≤ 20 := fun l => by rw [textsTo, List.length_map, List.length_take]; omega
  have b1 : (digsP (certTo x).partProof).length ≤ 3 + 20 * 35 := digsP_len ((mayB_iff _ _).2 ⟨t1 _, ((mayB_iff _ _).1 h1).2⟩)
  have b2 : (digsP (certTo x).slotProof).length ≤ 3 + 20 * 35 := digsP_len ((mayB_iff _ _).2 ⟨t1 _, ((mayB_iff _ _).1 h2).2⟩)
  have b3 := binP_len h0
  have b4 := numZ_len (certTo x).signed
  have b5 : (coinsP (certTo x).coins).length ≤ 3 + 640 * 9 := by
    unfold coinsP
    split
    · simp
    · have h6 := headP_len 3 (certTo x).coins.length
      have h7 := lists_len numP (fun _ => true) 9 (fun n _ => numP_len n) (certTo x).coins (by simp)
      rw [List.length_append]
      omega
  have b6 : (revsP (certTo x).reveals).length ≤ 3 + 8 * 3058 := by
    unfold revsP
    split
    · simp
    · have h6 := headP_len 3 (certTo x).reveals.length
      have h7 := lists_len (fun r => mapP (revF r)) mayRevB 3058 (fun r hr => rev_len hr) (certTo x).reveals h5
      have h8 : (certTo x).reveals.length ≤ 8 := by simp only [certTo, List.length_map, List.length_take]; omega
      rw [List.length_append]
      omega
  omega
theorem certTo_p {x : CertR} (h : CertP x) : CertP (certTo x) := by
  refine ⟨h.s, fun r hr => ?_, fun n hn => h.co n (List.mem_of_mem_take hn)⟩
  obtain ⟨r0, hr0, rfl⟩ := List.mem_map.1 hr
  exact h.r r0 (List.mem_of_mem_take hr0)
theorem certTo_in {x : CertR} (h : CertP x) {y : CertE} (hy : y.r = certTo x) : CertIn y := by
  have hp := certTo_p h
  rw [← hy] at hp
  have t1 : ∀ l : List (List UInt8), ∀ k, (textsTo l k).length ≤ k := fun l k => by rw [textsTo, List.length_map, List.length_take]; omega
  have h1 : y.rl.length ≤ 8 := by
    have : y.r.reveals.length ≤ 8 := by rw [hy]; simp only [certTo, List.length_map, List.length_take]; omega
    rwa [show y.r.reveals.length = y.rl.length from List.length_map ..] at this
  have h2 : y.coins.length ≤ 650 := by
    have : y.r.coins.length ≤ 650 := by rw [hy]; simp only [certTo, List.length_take]; omega
    exact this
  have h3 : y.sp.length ≤ 20 := by
    have : y.r.slotProof.length ≤ 20 := by rw [hy]; exact t1 _ _
    exact this
  have h4 : y.pp.length ≤ 20 := by
    have : y.r.partProof.length ≤ 20 := by rw [hy]; exact t1 _ _
    exact this
  refine ⟨hp.s, ⟨by omega, fun z hz => ?_⟩, ⟨by omega, hp.co⟩, by omega, by omega⟩
  have hz2 : z.r ∈ y.r.reveals := List.mem_map.2 ⟨z, hz, rfl⟩
  obtain ⟨a, b, c, d⟩ := hp.r _ hz2
  rw [hy] at hz2
  obtain ⟨r0, hr0, e⟩ := List.mem_map.1 hz2
  refine ⟨a, ⟨c, ⟨d, ?_, ?_⟩⟩, b⟩
  · rw [← e]; exact Nat.le_trans (t1 r0.slot.sig.wots 70) (by decide)
  · rw [← e]; exact Nat.le_trans (t1 r0.slot.sig.path 20) (by decide)
end Go.Proofs.YtlhmmplkdjibkaaGreatDoor
