/- Bytes as a text: what string(b) gives. -/
import Derived.Test.YteppmkpckdmnaaaDoorSegB
import Derived.Test.YteppmkpckdmnaaaDoorStrM
import Derived.Laws.BytesArg
namespace Go.Proofs.YteppmkpckdmnaaaDoor
open Go.RowKit
theorem conv_seg {w : World} {q : Option Addr} {l : List Nat} (h : Seg w q l) (c : Nat) : (convert 52 9 (.slice q l.length c)).run Tryd.prog w = .ok (.string (strOf l)) w := by
  rcases h.cells with hl | ⟨b, o, rfl, hb, hc⟩
  · subst hl
    cases q with
    | none => exact run_convert_bytes_nil w 52 5 Tryd.underlying52 Tryd.underlying5 0 c 9 Tryd.underlying9
    | some ad =>
      have hl : (loadCells ad 0).run Tryd.prog w = .ok (([] : List Int).map (Value.int .u8)).toArray w := by simp [loadCells, loadCellsFrom]
      rw [List.length_nil, run_convert_bytes_string w 52 9 5 _ 0 c Tryd.underlying52 Tryd.underlying5 Tryd.underlying9, run_bytesToString w ad 0 c [] hl]
      rfl
  · refine run_convert_bytes_arg w 52 5 Tryd.underlying52 Tryd.underlying5 b o l.length c (l.map Int.ofNat) (by simp) (fun i hi => ?_) 9 Tryd.underlying9
    rw [hc i hi, Gf.nth_getElem l i hi, List.getD_eq_getElem?_getD, List.getElem?_map, List.getElem?_eq_getElem hi]
    rfl
end Go.Proofs.YteppmkpckdmnaaaDoor
