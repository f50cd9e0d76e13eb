/- A slice of numbers that came in; the variable ErrZero among three that are laid. -/
import Derived.Test.YtmlcbphcphpihaaDoorSentP
import Derived.Test.YtmlcbphcphpihaaDoorAnyB
import Derived.ProofKit
import Derived.OpenShut
import Derived.ChangeOld
namespace Go.Proofs.YtmlcbphcphpihaaDoor
open Go.ChangeShapes Go.WideShapes Go.ChangeAt Go.RowKit
theorem anyLaidOut : laidOutB Tryd.prog = true := by kernel_rfl
set_option maxRecDepth 100000 in
theorem ints_arg {H : Type} {enc : TypeId × Value → H} {W : World} {base : Nat} {v : Value} {d : DataW H} {ps : List MemPlace} (hok : Value.okWide Tryd.prog W .any base 45 v)
    (h : DataW.Trod enc Tryd.prog W 0 (fun _ => true) true 45 v d ps) : ∃ p l cap, v = .slice p l.length cap ∧ Ints W p l ∧ l.length ≤ maxLen ∧ ∀ i, -9223372036854775808 ≤ l.getD i 0 ∧ l.getD i 0 < 9223372036854775808 := by
  obtain ⟨a0, len0, cap0, rfl⟩ := okWide_slice Tryd.underlying45 hok
  obtain ⟨fuel, hf⟩ := h
  rcases open_ints Tryd.underlying45 Tryd.underlying3 (by kernel_rfl) hf with ⟨hcs, _⟩ | ⟨x, l, c, zs, hcs, _, hl, hm, hz, _, hcell, hwz⟩
  · simp [Value.cells] at hcs
    obtain ⟨rfl, rfl, rfl⟩ := hcs
    exact ⟨none, [], 0, rfl, Or.inl rfl, Nat.zero_le _, fun i => by simp⟩
  · simp [Value.cells] at hcs
    obtain ⟨rfl, rfl, rfl⟩ := hcs
    have hz' : zs.length = cap0 := by simpa using hz
    have hlen : (zs.take len0).length = len0 := by simp; omega
    have hnth : ∀ i, i < len0 → (zs.take len0).getD i 0 = zs.getD i 0 := by
      intro i hi
      rw [List.getD_eq_getElem?_getD, List.getD_eq_getElem?_getD, List.getElem?_take_of_lt hi]
    refine ⟨some x, zs.take len0, cap0, by rw [hlen], ?_, by rw [hlen]; omega, fun i => ?_⟩
    · by_cases h0 : len0 = 0
      · exact Or.inl (List.length_eq_zero_iff.1 (by rw [hlen]; exact h0))
      · obtain ⟨b, off, rfl, hc⟩ := ints_at hcell (by omega)
        refine Or.inr ⟨b, off, rfl, lt_of_cell (hc 0 (by omega)), fun i hi => ?_⟩
        rw [hlen] at hi
        rw [hc i (by omega), hnth i hi]
    · by_cases hi : i < len0
      · rw [hnth i hi]
        have hmem : zs.getD i 0 ∈ zs := by rw [List.getD_eq_getElem?_getD, List.getElem?_eq_getElem (by omega)]; exact List.getElem_mem _
        have := bounds_i64 (hwz _ hmem)
        omega
      · rw [List.getD_eq_getElem?_getD, List.getElem?_eq_none (by rw [hlen]; omega)]
        decide
/-- The three, by name and text. -/
def L3 : List (String × List UInt8) := Rows.matrixAnyRow.laid.map fun x => (x.1, match x.2 with | .iface _ (.ptr (.agg [.lit (.string t)])) => t | _ => [])
theorem laid_three (W : World) : laidMetH Tryd.prog Rows.matrixAnyRow.laid W = laidMet Tryd.prog (L3.map fun x => (x.1, errD x.2)) W := by kernel_rfl
theorem L3_named : (L3.all fun x => match Tryd.prog.globalNamed x.1 with | some g => (Tryd.prog.globals[g]?).map (·.type) == some 27 | none => false) = true := by kernel_rfl
theorem g3 : L3.map (fun x => Tryd.prog.globalNamed x.1) = [some 2, some 0, some 1] := by kernel_rfl
theorem zero_of_laid {W : World} (h : laidMetH Tryd.prog Rows.matrixAnyRow.laid W) : ∃ z, W.cell? ⟨1, 0, none⟩ = some (.iface 106 (.pointer (some z))) := by
  rw [laid_three] at h
  obtain ⟨ps, hl, _, hr⟩ := h
  have hn : ∀ x ∈ L3, ∃ g, Tryd.prog.globalNamed x.1 = some g ∧ (Tryd.prog.globals[g]?).map (·.type) = some 27 := by
    intro x hx
    have := List.all_eq_true.1 L3_named x hx
    split at this
    · rename_i g hg
      exact ⟨g, hg, by simpa using this⟩
    · cases this
  have c57 : Tryd.prog.cellsOf 128 = 1 := by kernel_rfl
  have c9 : Tryd.prog.cellsOf 9 = 1 := by kernel_rfl
  obtain ⟨ad, h1, _⟩ := sents Tryd.underlying27 row_es Tryd.underlying106 Tryd.underlying128 rfl rfl Tryd.underlying9 c57 c9 L3 ps hl hn hr
  have cellg : ∀ i g, (L3.map (fun x => Tryd.prog.globalNamed x.1))[i]? = some (some g) → W.cell? ⟨g, 0, none⟩ = some (.iface 106 (.pointer (some (ad i)))) := by
    intro i g hx
    rw [List.getElem?_map] at hx
    obtain ⟨x, hx1, hx2⟩ := Option.map_eq_some_iff.1 hx
    simpa using World.var?_cell hx2 (h1 i x hx1).2 0
  rw [g3] at cellg
  exact ⟨ad 2, cellg 2 _ rfl⟩
end Go.Proofs.YtmlcbphcphpihaaDoor
