/- From the condition that the listed package-level variables read as the program's text lays them to what the walks ask: each of the twelve errors in its variable, each its own pointer, and errors.errorType. -/
import Derived.Test.YtgjehnahkbddgaaGreatDoorRows
import Derived.Test.YtgjehnahkbddgaaGreatDoorLaidP
import Derived.Test.YtgjehnahkbddgaaGreatDoorZE
import Derived.ProofKit
import Derived.LaidLaws
import Derived.LaidHandle
import Derived.LaidMore
import Derived.Stop.LaidErr
namespace Go.Proofs.YtgjehnahkbddgaaGreatDoor
open Go.ChangeShapes Go.WideShapes Go.RowKit

/-- The twelve, by name and text. -/
def L12 : List (String × List UInt8) := (Rows.quorumBestRow.laid.drop (0 + 1)).map fun x => (x.1, match x.2 with | .iface _ (.ptr (.agg [.lit (.string t)])) => t | _ => [])
theorem L12_laid : (L12.map fun x => (x.1, errD x.2)) = Rows.quorumBestRow.laid.drop (0 + 1) := rfl
theorem laid_split (W : World) : laidMetH Tryz.prog Rows.quorumBestRow.laid W = (laidMet Tryz.prog (Rows.quorumBestRow.laid.take 0 ++ L12.map fun x => (x.1, errD x.2)) W ∧ handlesMet Tryz.prog ((Rows.quorumBestRow.laid.drop 0).take 1) W) := by kernel_rfl
theorem L12_named : (L12.all fun x => match Tryz.prog.globalNamed x.1 with | some g => (Tryz.prog.globals[g]?).map (·.type) == some 32 | none => false) = true := by kernel_rfl
theorem g12 : L12.map (fun x => Tryz.prog.globalNamed x.1) = [some 3, some 1, some 0, some 4, some 5, some 6, some 7, some 2, some 8, some 9, some 10, some 11] := by kernel_rfl
theorem etNamed : Tryz.prog.globalNamed "errors.errorType" = some 12 := by kernel_rfl
theorem errOneRow : ((List.range 197).filter fun t => Tryz.prog.rowNamed t [101, 114, 114, 111, 114]) = [32] := by kernel_rfl
theorem typesSize : Tryz.prog.types.size = 197 := by kernel_rfl
theorem sent_of_laid {W : World} (h : laidMetH Tryz.prog Rows.quorumBestRow.laid W) : ∃ ad, Sent W ad := by
  rw [laid_split] at h
  obtain ⟨⟨ps0, hl0, hnd0, hr0⟩, hH⟩ := h
  obtain ⟨pp, ps, rfl, hl⟩ := laid_peel _ _ _ hl0
  have hnd : ps.Nodup := List.Nodup.sublist (List.sublist_append_right _ _) hnd0
  have hr := fun b off (hm : MemPlace.cell b off ∈ ps) => hr0 b off (List.mem_append_right _ hm)
  clear hl0 hnd0 hr0
  have hn : ∀ x ∈ L12, ∃ g, Tryz.prog.globalNamed x.1 = some g ∧ (Tryz.prog.globals[g]?).map (·.type) = some 32 := by
    intro x hx
    have := List.all_eq_true.1 L12_named x hx
    split at this
    · rename_i g hg
      exact ⟨g, hg, by simpa using this⟩
    · cases this
  have c57 : Tryz.prog.cellsOf 185 = 1 := by kernel_rfl
  have c9 : Tryz.prog.cellsOf 9 = 1 := by kernel_rfl
  obtain ⟨ad, h1, h2⟩ := sents Tryz.underlying32 row_es Tryz.underlying165 Tryz.underlying185 rfl rfl Tryz.underlying9 c57 c9 L12 ps hl hn hr
  have cell : ∀ i g x, L12[i]? = some x → Tryz.prog.globalNamed x.1 = some g → W.cell? ⟨g, 0, none⟩ = some (.iface 165 (.pointer (some (ad i)))) := by
    intro i g x hx hg
    simpa using World.var?_cell hg (h1 i x hx).2 0
  have cellg : ∀ i g, (L12.map (fun x => Tryz.prog.globalNamed x.1))[i]? = some (some g) → W.cell? ⟨g, 0, none⟩ = some (.iface 165 (.pointer (some (ad i)))) := by
    intro i g hx
    rw [List.getElem?_map] at hx
    obtain ⟨x, hx1, hx2⟩ := Option.map_eq_some_iff.1 hx
    exact cell i g x hx1 hx2
  rw [g12] at cellg
  have len : L12.length = 12 := rfl
  refine ⟨ad, cellg 0 _ rfl, cellg 1 _ rfl, cellg 2 _ rfl, cellg 3 _ rfl, cellg 4 _ rfl, cellg 5 _ rfl, cellg 6 _ rfl, cellg 7 _ rfl, cellg 8 _ rfl, cellg 9 _ rfl, cellg 10 _ rfl, cellg 11 _ rfl, ?_, ?_, fun i j hi hj => h2 hnd i j (by rw [len]; exact hi) (by rw [len]; exact hj)⟩
  · obtain ⟨name, u, ty, e1, e2, e3, e4, e5⟩ := hH _ (List.mem_singleton.2 rfl)
    have en : name = [101, 114, 114, 111, 114] := (Option.some.inj e1).symm
    subst en
    obtain rfl : 141 = u := Option.some.inj ((show _ = some 141 by kernel_rfl).symm.trans e2)
    have hm : ty ∈ (List.range 197).filter fun t => Tryz.prog.rowNamed t [101, 114, 114, 111, 114] := List.mem_filter.2 ⟨List.mem_range.2 (by rw [← typesSize]; exact e3), e4⟩
    rw [errOneRow] at hm
    obtain rfl := List.mem_singleton.1 hm
    have hh : typeHandle Tryz.prog 32 = .pointer (some ⟨14, 32, none⟩) := by kernel_rfl
    rw [hh] at e5
    simpa using World.var?_cell etNamed e5 0
  · intro i hi
    obtain ⟨x, hx⟩ : ∃ x, L12[i]? = some x := ⟨L12[i]'(by rw [len]; exact hi), List.getElem?_eq_getElem (by rw [len]; exact hi)⟩
    exact (hr _ _ (h1 i x hx).1).1
theorem own : ownKnob Tryz.prog.godebug = none := by kernel_rfl
theorem doorAll_met (os : Os) (args : Array Value) : laidMetH Tryz.prog Rows.quorumBestRow.laid ((World.doorLaid Tryz.prog 244 os).forCall (fun _ _ => 0) ⟨#[], args, []⟩).memory :=
  laidMetH_of_parts3 (fuel := 8) (laidMet_of_run' 8 (by kernel_rfl) (by kernel_rfl)) (by kernel_rfl) (by kernel_rfl)
end Go.Proofs.YtgjehnahkbddgaaGreatDoor
