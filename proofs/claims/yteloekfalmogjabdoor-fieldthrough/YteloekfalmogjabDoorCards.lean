/-
  DERIVED. GIVEN WITH THE SEED: THE CARDS: each row of YteloekfalmogjabDoorRows.lean that lists a variable, with what it lists TIED to the program's text (the seventh form; the later family's looks); each row that meets fmt, with fmt's text TOLD by the authors' own Lean function (tested against real Go, not proved from fmt's source: count such statements apart). THE CARD IS WHAT COUNTS. Prove the row's statement (the work); the ties are given (YteloekfalmogjabDoorTie.lean); close each card by the builder's one call (the guide's Derived/Test/ToyasCard.lean, 'card_holds'). Laid BY PROGRAM, IN A SANDBOX (cutbox-door.mjs). By AI agents, Wed Nov 11 2026. No macro, syntax, notation, axiom, sorry.
-/
import Derived.Test.YteloekfalmogjabDoorRows
import GoSem.ClaimSeven
namespace Go.Proofs.YteloekfalmogjabDoor
namespace Rows

/-- THE TIED CARD OF 'shardkeeplaw1.FieldThrough'. -/
def fieldThroughCard : Claim7 := { stood := { row := fieldThroughRow, standIns := [], harness := (true, "40cea6aec46a4de161a06e83e3f5e627208648045151e643de4531a9b104d405"), looks := false }, kinds := [], alts := [], laidByText := true, laidKinds := [.sentinel, .sentinel], laidTests := true, laidLooks := .later }
def FieldThroughCardSaid : Prop := Claim7.holds Tryd.pinned (.plain (OpenSpec.ofChange fieldThroughSpec)) fieldThroughCard

/-- THE SECOND FORM's CARD OF 'shardkeeplaw1.FieldThrough'. -/
def fieldThroughUptoCard : Claim7 := { stood := { row := fieldThroughUptoRow, standIns := [], harness := (true, "40cea6aec46a4de161a06e83e3f5e627208648045151e643de4531a9b104d405"), looks := false }, kinds := [], alts := [], laidByText := true, laidKinds := [.sentinel, .sentinel], laidTests := true, laidLooks := .later }
def FieldThroughUptoCardSaid : Prop := Claim7.holds Tryd.pinned (.plain (OpenSpec.upto fieldThroughSpec)) fieldThroughUptoCard
end Rows
end Go.Proofs.YteloekfalmogjabDoor
