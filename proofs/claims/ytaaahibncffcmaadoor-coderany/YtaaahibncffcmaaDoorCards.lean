/-
  DERIVED. GIVEN WITH THE SEED: THE CARDS: each row of YtaaahibncffcmaaDoorRows.lean that lists a variable, with what it lists TIED to the program's text (the seventh form; the later family's looks); each row that meets fmt, with fmt's text TOLD by the authors' own Lean function (tested against real Go, not proved from fmt's source: count such statements apart). THE CARD IS WHAT COUNTS. Prove the row's statement (the work); the ties are given (YtaaahibncffcmaaDoorTie.lean); close each card by the builder's one call (the guide's Derived/Test/ToyasCard.lean, 'card_holds'). Laid BY PROGRAM, IN A SANDBOX (cutbox-door.mjs). By AI agents, Wed Nov 11 2026. No macro, syntax, notation, axiom, sorry.
-/
import Derived.Test.YtaaahibncffcmaaDoorRows
import GoSem.ClaimSeven
namespace Go.Proofs.YtaaahibncffcmaaDoor
namespace Rows

/-- THE TIED CARD OF 'shardkeeplaw1.MatrixSpread'. -/
def matrixSpreadCard : Claim7 := { stood := { row := matrixSpreadRow, standIns := [], harness := (true, "4c72d764ccd0429460d9a697c353a879389a77f7e62fe219fe0eac8be47ebed3"), looks := true }, kinds := [], alts := [], laidByText := true, laidKinds := [.handle, .sentinel, .sentinel, .sentinel, .sentinel, .sentinel, .sentinel, .sentinel, .sentinel, .sentinel, .sentinel, .sentinel, .sentinel], laidTests := true, laidLooks := .later }
def MatrixSpreadCardSaid : Prop := Claim7.holds Tryd.pinned (.plain (OpenSpec.ofChange matrixSpreadSpec)) matrixSpreadCard

/-- THE TIED CARD OF 'shardkeeplaw1.MatrixAny'. -/
def matrixAnyCard : Claim7 := { stood := { row := matrixAnyRow, standIns := [], harness := (true, "4c72d764ccd0429460d9a697c353a879389a77f7e62fe219fe0eac8be47ebed3"), looks := true }, kinds := [], alts := [], laidByText := true, laidKinds := [.sentinel, .sentinel, .sentinel], laidTests := true, laidLooks := .later }
def MatrixAnyCardSaid : Prop := Claim7.holds Tryd.pinned (.plain (OpenSpec.ofChange matrixAnySpec)) matrixAnyCard

/-- THE TIED CARD OF 'shardkeeplaw1.CoderEncodes'. -/
def coderEncodesCard : Claim7 := { stood := { row := coderEncodesRow, standIns := [], harness := (true, "4c72d764ccd0429460d9a697c353a879389a77f7e62fe219fe0eac8be47ebed3"), looks := true }, kinds := [], alts := [], laidByText := true, laidKinds := [.handle, .sentinel, .sentinel, .sentinel, .sentinel, .sentinel, .sentinel, .sentinel, .sentinel, .sentinel, .sentinel, .sentinel, .sentinel], laidTests := true, laidLooks := .later }
def CoderEncodesCardSaid : Prop := Claim7.holds Tryd.pinned (.plain (OpenSpec.ofChange coderEncodesSpec)) coderEncodesCard

/-- THE TIED CARD OF 'shardkeeplaw1.CoderSums'. -/
def coderSumsCard : Claim7 := { stood := { row := coderSumsRow, standIns := [], harness := (true, "4c72d764ccd0429460d9a697c353a879389a77f7e62fe219fe0eac8be47ebed3"), looks := true }, kinds := [], alts := [], laidByText := true, laidKinds := [.sentinel, .sentinel, .sentinel], laidTests := true, laidLooks := .later }
def CoderSumsCardSaid : Prop := Claim7.holds Tryd.pinned (.plain (OpenSpec.ofChange coderSumsSpec)) coderSumsCard

/-- THE TIED CARD OF 'shardkeeplaw1.CoderWrong'. -/
def coderWrongCard : Claim7 := { stood := { row := coderWrongRow, standIns := [], harness := (true, "4c72d764ccd0429460d9a697c353a879389a77f7e62fe219fe0eac8be47ebed3"), looks := true }, kinds := [], alts := [], laidByText := true, laidKinds := [.sentinel, .sentinel, .sentinel, .sentinel], laidTests := true, laidLooks := .later }
def CoderWrongCardSaid : Prop := Claim7.holds Tryd.pinned (.plain (OpenSpec.ofChange coderWrongSpec)) coderWrongCard

/-- THE TIED CARD OF 'shardkeeplaw1.CoderAny'. -/
def coderAnyCard : Claim7 := { stood := { row := coderAnyRow, standIns := [], harness := (true, "4c72d764ccd0429460d9a697c353a879389a77f7e62fe219fe0eac8be47ebed3"), looks := true }, kinds := [], alts := [], laidByText := true, laidKinds := [.sentinel, .sentinel, .sentinel, .sentinel], laidTests := true, laidLooks := .later }
def CoderAnyCardSaid : Prop := Claim7.holds Tryd.pinned (.plain (OpenSpec.ofChange coderAnySpec)) coderAnyCard

/-- THE SECOND FORM's CARD OF 'shardkeeplaw1.MatrixSpread'. -/
def matrixSpreadUptoCard : Claim7 := { stood := { row := matrixSpreadUptoRow, standIns := [], harness := (true, "4c72d764ccd0429460d9a697c353a879389a77f7e62fe219fe0eac8be47ebed3"), looks := true }, kinds := [], alts := [], laidByText := true, laidKinds := [.handle, .sentinel, .sentinel, .sentinel, .sentinel, .sentinel, .sentinel, .sentinel, .sentinel, .sentinel, .sentinel, .sentinel, .sentinel], laidTests := true, laidLooks := .later }
def MatrixSpreadUptoCardSaid : Prop := Claim7.holds Tryd.pinned (.plain (OpenSpec.upto matrixSpreadSpec)) matrixSpreadUptoCard

/-- THE SECOND FORM's CARD OF 'shardkeeplaw1.MatrixAny'. -/
def matrixAnyUptoCard : Claim7 := { stood := { row := matrixAnyUptoRow, standIns := [], harness := (true, "4c72d764ccd0429460d9a697c353a879389a77f7e62fe219fe0eac8be47ebed3"), looks := true }, kinds := [], alts := [], laidByText := true, laidKinds := [.sentinel, .sentinel, .sentinel], laidTests := true, laidLooks := .later }
def MatrixAnyUptoCardSaid : Prop := Claim7.holds Tryd.pinned (.plain (OpenSpec.upto matrixAnySpec)) matrixAnyUptoCard

/-- THE SECOND FORM's CARD OF 'shardkeeplaw1.CoderEncodes'. -/
def coderEncodesUptoCard : Claim7 := { stood := { row := coderEncodesUptoRow, standIns := [], harness := (true, "4c72d764ccd0429460d9a697c353a879389a77f7e62fe219fe0eac8be47ebed3"), looks := true }, kinds := [], alts := [], laidByText := true, laidKinds := [.handle, .sentinel, .sentinel, .sentinel, .sentinel, .sentinel, .sentinel, .sentinel, .sentinel, .sentinel, .sentinel, .sentinel, .sentinel], laidTests := true, laidLooks := .later }
def CoderEncodesUptoCardSaid : Prop := Claim7.holds Tryd.pinned (.plain (OpenSpec.upto coderEncodesSpec)) coderEncodesUptoCard

/-- THE SECOND FORM's CARD OF 'shardkeeplaw1.CoderSums'. -/
def coderSumsUptoCard : Claim7 := { stood := { row := coderSumsUptoRow, standIns := [], harness := (true, "4c72d764ccd0429460d9a697c353a879389a77f7e62fe219fe0eac8be47ebed3"), looks := true }, kinds := [], alts := [], laidByText := true, laidKinds := [.sentinel, .sentinel, .sentinel], laidTests := true, laidLooks := .later }
def CoderSumsUptoCardSaid : Prop := Claim7.holds Tryd.pinned (.plain (OpenSpec.upto coderSumsSpec)) coderSumsUptoCard

/-- THE SECOND FORM's CARD OF 'shardkeeplaw1.CoderWrong'. -/
def coderWrongUptoCard : Claim7 := { stood := { row := coderWrongUptoRow, standIns := [], harness := (true, "4c72d764ccd0429460d9a697c353a879389a77f7e62fe219fe0eac8be47ebed3"), looks := true }, kinds := [], alts := [], laidByText := true, laidKinds := [.sentinel, .sentinel, .sentinel, .sentinel], laidTests := true, laidLooks := .later }
def CoderWrongUptoCardSaid : Prop := Claim7.holds Tryd.pinned (.plain (OpenSpec.upto coderWrongSpec)) coderWrongUptoCard

/-- THE SECOND FORM's CARD OF 'shardkeeplaw1.CoderAny'. -/
def coderAnyUptoCard : Claim7 := { stood := { row := coderAnyUptoRow, standIns := [], harness := (true, "4c72d764ccd0429460d9a697c353a879389a77f7e62fe219fe0eac8be47ebed3"), looks := true }, kinds := [], alts := [], laidByText := true, laidKinds := [.sentinel, .sentinel, .sentinel, .sentinel], laidTests := true, laidLooks := .later }
def CoderAnyUptoCardSaid : Prop := Claim7.holds Tryd.pinned (.plain (OpenSpec.upto coderAnySpec)) coderAnyUptoCard
end Rows
end Go.Proofs.YtaaahibncffcmaaDoor
