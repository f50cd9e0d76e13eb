/-
  DERIVED. GIVEN WITH THE SEED: THE CARDS: each row of YtmlcbphcphpihaaDoorRows.lean that lists a variable, with what it lists TIED to the program's text (the seventh form; the later family's looks); each row that meets fmt, with fmt's text TOLD by the authors' own Lean function (tested against real Go, not proved from fmt's source: count such statements apart). THE CARD IS WHAT COUNTS. Prove the row's statement (the work); the ties are given (YtmlcbphcphpihaaDoorTie.lean); close each card by the builder's one call (the guide's Derived/Test/ToyasCard.lean, 'card_holds'). Laid BY PROGRAM, IN A SANDBOX (cutbox-door.mjs). By AI agents, Wed Nov 11 2026. No macro, syntax, notation, axiom, sorry.
-/
import Derived.Test.YtmlcbphcphpihaaDoorRows
import GoSem.ClaimSeven
namespace Go.Proofs.YtmlcbphcphpihaaDoor
namespace Rows

/-- THE TIED CARD OF 'shardkeeplaw1.MatrixTimes'. -/
def matrixTimesCard : Claim7 := { stood := { row := matrixTimesRow, standIns := [], harness := (true, "f98b02cde066f180898afd06601573bd35961da2b789b4a744a1dfee66addc6b"), looks := true }, kinds := [], alts := [], laidByText := true, laidKinds := [.handle, .sentinel, .sentinel, .sentinel, .sentinel, .sentinel, .sentinel, .sentinel, .sentinel, .sentinel, .sentinel, .sentinel, .sentinel], laidTests := true, laidLooks := .later }
def MatrixTimesCardSaid : Prop := Claim7.holds Tryd.pinned (.plain (OpenSpec.ofChange matrixTimesSpec)) matrixTimesCard

/-- THE TIED CARD OF 'shardkeeplaw1.MatrixInverts'. -/
def matrixInvertsCard : Claim7 := { stood := { row := matrixInvertsRow, standIns := [], harness := (true, "f98b02cde066f180898afd06601573bd35961da2b789b4a744a1dfee66addc6b"), looks := true }, kinds := [], alts := [], laidByText := true, laidKinds := [.handle, .sentinel, .sentinel, .sentinel, .sentinel, .sentinel, .sentinel, .sentinel, .sentinel, .sentinel, .sentinel, .sentinel, .sentinel], laidTests := true, laidLooks := .later }
def MatrixInvertsCardSaid : Prop := Claim7.holds Tryd.pinned (.plain (OpenSpec.ofChange matrixInvertsSpec)) matrixInvertsCard

/-- THE TIED CARD OF 'shardkeeplaw1.MatrixSpread'. -/
def matrixSpreadCard : Claim7 := { stood := { row := matrixSpreadRow, standIns := [], harness := (true, "f98b02cde066f180898afd06601573bd35961da2b789b4a744a1dfee66addc6b"), looks := true }, kinds := [], alts := [], laidByText := true, laidKinds := [.handle, .sentinel, .sentinel, .sentinel, .sentinel, .sentinel, .sentinel, .sentinel, .sentinel, .sentinel, .sentinel, .sentinel, .sentinel], laidTests := true, laidLooks := .later }
def MatrixSpreadCardSaid : Prop := Claim7.holds Tryd.pinned (.plain (OpenSpec.ofChange matrixSpreadSpec)) matrixSpreadCard

/-- THE TIED CARD OF 'shardkeeplaw1.MatrixAny'. -/
def matrixAnyCard : Claim7 := { stood := { row := matrixAnyRow, standIns := [], harness := (true, "f98b02cde066f180898afd06601573bd35961da2b789b4a744a1dfee66addc6b"), looks := true }, kinds := [], alts := [], laidByText := true, laidKinds := [.sentinel, .sentinel, .sentinel], laidTests := true, laidLooks := .later }
def MatrixAnyCardSaid : Prop := Claim7.holds Tryd.pinned (.plain (OpenSpec.ofChange matrixAnySpec)) matrixAnyCard

/-- THE SECOND FORM's CARD OF 'shardkeeplaw1.MatrixTimes'. -/
def matrixTimesUptoCard : Claim7 := { stood := { row := matrixTimesUptoRow, standIns := [], harness := (true, "f98b02cde066f180898afd06601573bd35961da2b789b4a744a1dfee66addc6b"), looks := true }, kinds := [], alts := [], laidByText := true, laidKinds := [.handle, .sentinel, .sentinel, .sentinel, .sentinel, .sentinel, .sentinel, .sentinel, .sentinel, .sentinel, .sentinel, .sentinel, .sentinel], laidTests := true, laidLooks := .later }
def MatrixTimesUptoCardSaid : Prop := Claim7.holds Tryd.pinned (.plain (OpenSpec.upto matrixTimesSpec)) matrixTimesUptoCard

/-- THE SECOND FORM's CARD OF 'shardkeeplaw1.MatrixInverts'. -/
def matrixInvertsUptoCard : Claim7 := { stood := { row := matrixInvertsUptoRow, standIns := [], harness := (true, "f98b02cde066f180898afd06601573bd35961da2b789b4a744a1dfee66addc6b"), looks := true }, kinds := [], alts := [], laidByText := true, laidKinds := [.handle, .sentinel, .sentinel, .sentinel, .sentinel, .sentinel, .sentinel, .sentinel, .sentinel, .sentinel, .sentinel, .sentinel, .sentinel], laidTests := true, laidLooks := .later }
def MatrixInvertsUptoCardSaid : Prop := Claim7.holds Tryd.pinned (.plain (OpenSpec.upto matrixInvertsSpec)) matrixInvertsUptoCard

/-- THE SECOND FORM's CARD OF 'shardkeeplaw1.MatrixSpread'. -/
def matrixSpreadUptoCard : Claim7 := { stood := { row := matrixSpreadUptoRow, standIns := [], harness := (true, "f98b02cde066f180898afd06601573bd35961da2b789b4a744a1dfee66addc6b"), looks := true }, kinds := [], alts := [], laidByText := true, laidKinds := [.handle, .sentinel, .sentinel, .sentinel, .sentinel, .sentinel, .sentinel, .sentinel, .sentinel, .sentinel, .sentinel, .sentinel, .sentinel], laidTests := true, laidLooks := .later }
def MatrixSpreadUptoCardSaid : Prop := Claim7.holds Tryd.pinned (.plain (OpenSpec.upto matrixSpreadSpec)) matrixSpreadUptoCard

/-- THE SECOND FORM's CARD OF 'shardkeeplaw1.MatrixAny'. -/
def matrixAnyUptoCard : Claim7 := { stood := { row := matrixAnyUptoRow, standIns := [], harness := (true, "f98b02cde066f180898afd06601573bd35961da2b789b4a744a1dfee66addc6b"), looks := true }, kinds := [], alts := [], laidByText := true, laidKinds := [.sentinel, .sentinel, .sentinel], laidTests := true, laidLooks := .later }
def MatrixAnyUptoCardSaid : Prop := Claim7.holds Tryd.pinned (.plain (OpenSpec.upto matrixAnySpec)) matrixAnyUptoCard
end Rows
end Go.Proofs.YtmlcbphcphpihaaDoor
