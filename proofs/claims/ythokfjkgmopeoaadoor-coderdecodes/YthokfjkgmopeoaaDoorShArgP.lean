/- A slice of shards that came in. -/
import Derived.Test.YthokfjkgmopeoaaDoorRows
import Derived.Test.YthokfjkgmopeoaaDoorG1
import Derived.ProofKit
import Derived.OpenShut
import Derived.ChangeOld
import Derived.Deep.SlicePairs
namespace Go.Proofs.YthokfjkgmopeoaaDoor
open Go.ChangeShapes Go.WideShapes Go.ChangeAt Go.RowKit
theorem shLaidOut : laidOutB Tryd.prog = true := by kernel_rfl
theorem shFields : ∃ f0 f1, Tryd.prog.underlying 34 = some (.struct #[f0, f1]) ∧ f0.offset = 0 ∧ f1.offset = 1 ∧ f0.type = 3 ∧ f1.type = 9 := ⟨_, _, Tryd.underlying34, rfl, rfl, rfl, rfl⟩
theorem lt_of_cellS {w : World} {b o : Nat} {v : Value} (h : w.cell? ⟨b, o, none⟩ = some v) : b < w.heap.size := by
  rcases Nat.lt_or_ge b w.heap.size with h' | h'
  · exact h'
  · simp [World.cell?, Array.getElem?_eq_none h'] at h
set_option maxRecDepth 100000 in
theorem shs_arg {H : Type} {enc : TypeId × Value → H} {W : World} {base : Nat} {v : Value} {d : DataW H} {ps : List MemPlace} (hok : Value.okWide Tryd.prog W .any base 23 v)
    (h : DataW.Trod enc Tryd.prog W 0 (fun _ => true) true 23 v d ps) : ∃ p l cap, v = .slice p l.length cap ∧ Shs W p l ∧ l.length ≤ maxLen ∧ (p = none → cap = 0) ∧ ∀ i, (shAt l i).2.size ≤ maxLen := by
  obtain ⟨a0, len0, cap0, rfl⟩ := okWide_slice Tryd.underlying23 hok
  obtain ⟨fuel, hf⟩ := h
  obtain ⟨f0, f1, hst, ho0, ho1, ht0, ht1⟩ := shFields
  rcases Deep.open_slice_pairs Tryd.underlying23 hst (by kernel_rfl) ho0 ho1 (by rw [ht0]; kernel_rfl) (by rw [ht1]; kernel_rfl) hf with ⟨hcs, _⟩ | ⟨a, len, cp, m, nn, V0, V1, D0, D1, P0, P1, hcs, _, hle, hcm, hm, _, hx⟩
  · simp [Value.cells] at hcs
    obtain ⟨rfl, rfl, rfl⟩ := hcs
    exact ⟨none, [], 0, rfl, Or.inl rfl, Nat.zero_le _, fun _ => rfl, fun i => by simp [shAt, ByteArray.size]⟩
  · simp [Value.cells] at hcs
    obtain ⟨rfl, rfl, rfl⟩ := hcs
    have hlm : len0 ≤ m := by rw [hm]; split <;> omega
    have hv : ∀ i, ∃ x : Int × ByteArray, i < len0 → V0 i = .int .i64 x.1 ∧ V1 i = .string x.2 ∧ x.2.size ≤ maxLen := fun i => by
      by_cases hi : i < len0
      · obtain ⟨_, _, h0, h1⟩ := hx i (by omega)
        rw [ht0] at h0
        rw [ht1] at h1
        obtain ⟨y, hy, _⟩ := DataW.trod_int Tryd.underlying3 h0
        obtain ⟨s, hs, _, hsz⟩ := DataW.trod_string Tryd.underlying9 h1
        exact ⟨(y, s), fun _ => ⟨by simpa using hy, by simpa using hs, hsz⟩⟩
      · exact ⟨(0, ⟨#[]⟩), fun h => absurd h hi⟩
    have hlen : ((List.range len0).map fun i => Classical.choose (hv i)).length = len0 := by simp
    have hat : ∀ i, i < len0 → shAt ((List.range len0).map fun i => Classical.choose (hv i)) i = Classical.choose (hv i) := fun i hi => by
      unfold shAt
      rw [List.getD_eq_getElem?_getD, List.getElem?_map, List.getElem?_range hi]
      rfl
    refine ⟨some a, (List.range len0).map fun i => Classical.choose (hv i), cap0, by rw [hlen], ?_, by rw [hlen]; omega, (fun e => by cases e), fun i => ?_⟩
    · by_cases h0 : len0 = 0
      · exact Or.inl (List.length_eq_zero_iff.1 (by rw [hlen]; exact h0))
      · have hx0 := (hx 0 (by omega)).1
        obtain ⟨b, off, sp⟩ := a
        have hsp : sp = none := by
          cases sp with
          | none => rfl
          | some q =>
            exfalso
            simp [Addr.add, World.cell?] at hx0
            revert hx0
            split <;> intro h9 <;> cases h9
        subst hsp
        refine Or.inr ⟨b, off, rfl, lt_of_cellS (by rw [Addr.add_lit] at hx0; exact hx0), fun i hi => ?_⟩
        rw [hlen] at hi
        obtain ⟨c0, c1, _, _⟩ := hx i (by omega)
        have hc := Classical.choose_spec (hv i) hi
        rw [hat i hi]
        rw [hc.1] at c0
        rw [hc.2.1] at c1
        rw [Addr.add_lit] at c0 c1
        exact ⟨c0, by rw [Nat.add_assoc]; exact c1⟩
    · by_cases hi : i < len0
      · rw [hat i hi]
        exact (Classical.choose_spec (hv i) hi).2.2
      · unfold shAt
        rw [List.getD_eq_getElem?_getD, List.getElem?_eq_none (by rw [hlen]; omega)]
        exact Nat.zero_le _
end Go.Proofs.YthokfjkgmopeoaaDoor
