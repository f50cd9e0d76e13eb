/- A slice of bytes that came in, as the walks ask of it. -/
import Derived.Test.YteloekfalmogjaaDoorRows
import Derived.Test.YteloekfalmogjaaDoorSliceW
import Derived.ProofKit
import Derived.OpenShut
import Derived.ChangeOld
import Derived.Below
namespace Go.Proofs.YteloekfalmogjaaDoor
open Go.ChangeShapes Go.WideShapes Go.ChangeAt Go.RowKit
theorem laidOut : laidOutB Tryd.prog = true := by kernel_rfl
set_option maxRecDepth 100000 in
theorem bytes_arg {H : Type} {enc : TypeId × Value → H} {W : World} {base : Nat} {v : Value} {d : DataW H} {ps : List MemPlace} (hok : Value.okWide Tryd.prog W .any base 47 v)
    (h : DataW.Trod enc Tryd.prog W 0 (fun _ => true) true 47 v d ps) : ∃ p l cap, v = .slice p l.length cap ∧ Seg W p l ∧ l.length ≤ maxLen := by
  obtain ⟨a0, len0, cap0, rfl⟩ := okWide_slice Tryd.underlying47 hok
  obtain ⟨fuel, hf⟩ := h
  rcases open_ints Tryd.underlying47 Tryd.underlying5 (by kernel_rfl) hf with ⟨hcs, _⟩ | ⟨x, l, c, zs, hcs, _, hl, hm, hz, _, hcell, hwz⟩
  · simp [Value.cells] at hcs
    obtain ⟨rfl, rfl, rfl⟩ := hcs
    exact ⟨none, [], 0, rfl, ⟨fun i => by simp [Gf.nth], Or.inl rfl⟩, Nat.zero_le _⟩
  · simp [Value.cells] at hcs
    obtain ⟨rfl, rfl, rfl⟩ := hcs
    have hz' : zs.length = cap0 := by simpa using hz
    have hlen : ((zs.take len0).map Int.toNat).length = len0 := by simp; omega
    have hnth : ∀ i, i < len0 → Gf.nth ((zs.take len0).map Int.toNat) i = (zs.getD i 0).toNat := by
      intro i hi
      rw [Gf.nth_getElem _ _ (by rw [hlen]; exact hi)]
      simp [List.getD_eq_getElem?_getD, List.getElem?_eq_getElem (show i < zs.length by omega)]
    have hbd : ∀ i, i < zs.length → 0 ≤ zs.getD i 0 ∧ zs.getD i 0 < 256 := by
      intro i hi
      have hmem : zs.getD i 0 ∈ zs := by rw [List.getD_eq_getElem?_getD, List.getElem?_eq_getElem hi]; exact List.getElem_mem hi
      have := bounds_u8 (hwz _ hmem)
      omega
    refine ⟨some x, (zs.take len0).map Int.toNat, cap0, by rw [hlen], ⟨?_, ?_⟩, by rw [hlen]; omega⟩
    · intro i
      by_cases hi : i < len0
      · rw [hnth i hi]
        have := hbd i (by omega)
        omega
      · unfold Gf.nth
        rw [List.getD_eq_getElem?_getD, List.getElem?_eq_none (by rw [hlen]; omega)]
        decide
    · by_cases h0 : len0 = 0
      · exact Or.inl (List.length_eq_zero_iff.1 (by rw [hlen]; exact h0))
      · obtain ⟨b, off, rfl, hc⟩ := ints_at hcell (by omega)
        refine Or.inr ⟨b, off, rfl, ?_, ?_⟩
        · have := hc 0 (by omega)
          rcases Nat.lt_or_ge b W.heap.size with h' | h'
          · exact h'
          · simp [World.cell?, Array.getElem?_eq_none h'] at this
        · intro i hi
          rw [hlen] at hi
          rw [hc i (by omega), hnth i hi]
          have := hbd i (by omega)
          congr 2
          omega
end Go.Proofs.YteloekfalmogjaaDoor
