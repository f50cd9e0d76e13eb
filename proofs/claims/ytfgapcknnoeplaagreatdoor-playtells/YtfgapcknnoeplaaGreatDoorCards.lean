/-
  DERIVED. GIVEN WITH THE SEED: THE CARDS: each row of YtfgapcknnoeplaaGreatDoorRows.lean that lists a variable, with what it lists TIED to the program's text (the seventh form; the later family's looks); each row that meets fmt, with fmt's text TOLD by the authors' own Lean function (tested against real Go, not proved from fmt's source: count such statements apart). THE CARD IS WHAT COUNTS. Prove the row's statement (the work); the ties are given (YtfgapcknnoeplaaGreatDoorTie.lean); close each card by the builder's one call (the guide's Derived/Test/ToyasCard.lean, 'card_holds'). Laid BY PROGRAM, IN A SANDBOX (cutbox-door.mjs). By AI agents, Wed Nov 11 2026. No macro, syntax, notation, axiom, sorry.
-/
import Derived.Test.YtfgapcknnoeplaaGreatDoorRows
import GoSem.ClaimSeven
namespace Go.Proofs.YtfgapcknnoeplaaGreatDoor
namespace Rows

/-- THE TIED CARD OF 'shardkeeplaw3.PlayOrder'. -/
def playOrderCard : Claim7 := { stood := { row := playOrderRow, standIns := [], harness := (true, "b51a865077bac93ed93bac1918d3f81760abc2fae770d3ebb6e506e7a40126e0"), looks := true }, kinds := [], alts := [], laidByText := true, laidKinds := [.data, .data, .data, .sentinel, .sentinel, .sentinel, .sentinel, .sentinel, .sentinel, .sentinel, .sentinel, .sentinel, .sentinel], laidTests := true, laidLooks := .later }
def PlayOrderCardSaid : Prop := Claim7.holds Tryz.pinned (.plain (OpenSpec.ofChange playOrderSpec)) playOrderCard

/-- THE TIED CARD OF 'shardkeeplaw3.PlayTells'. -/
def playTellsCard : Claim7 := { stood := { row := playTellsRow, standIns := [], harness := (true, "b51a865077bac93ed93bac1918d3f81760abc2fae770d3ebb6e506e7a40126e0"), looks := true }, kinds := [], alts := [], laidByText := true, laidKinds := [.data, .data, .data, .handle, .sentinel, .sentinel, .sentinel, .sentinel, .sentinel, .sentinel, .sentinel, .sentinel, .sentinel, .sentinel, .sentinel, .sentinel], laidTests := true, laidLooks := .later }
def PlayTellsCardSaid : Prop := Claim7.holds Tryz.pinned (.plain (OpenSpec.ofChange playTellsSpec)) playTellsCard

/-- THE SECOND FORM's CARD OF 'shardkeeplaw3.PlayOrder'. -/
def playOrderUptoCard : Claim7 := { stood := { row := playOrderUptoRow, standIns := [], harness := (true, "b51a865077bac93ed93bac1918d3f81760abc2fae770d3ebb6e506e7a40126e0"), looks := true }, kinds := [], alts := [], laidByText := true, laidKinds := [.data, .data, .data, .sentinel, .sentinel, .sentinel, .sentinel, .sentinel, .sentinel, .sentinel, .sentinel, .sentinel, .sentinel], laidTests := true, laidLooks := .later }
def PlayOrderUptoCardSaid : Prop := Claim7.holds Tryz.pinned (.plain (OpenSpec.upto playOrderSpec)) playOrderUptoCard

/-- THE SECOND FORM's CARD OF 'shardkeeplaw3.PlayTells'. -/
def playTellsUptoCard : Claim7 := { stood := { row := playTellsUptoRow, standIns := [], harness := (true, "b51a865077bac93ed93bac1918d3f81760abc2fae770d3ebb6e506e7a40126e0"), looks := true }, kinds := [], alts := [], laidByText := true, laidKinds := [.data, .data, .data, .handle, .sentinel, .sentinel, .sentinel, .sentinel, .sentinel, .sentinel, .sentinel, .sentinel, .sentinel, .sentinel, .sentinel, .sentinel], laidTests := true, laidLooks := .later }
def PlayTellsUptoCardSaid : Prop := Claim7.holds Tryz.pinned (.plain (OpenSpec.upto playTellsSpec)) playTellsUptoCard
end Rows
end Go.Proofs.YtfgapcknnoeplaaGreatDoor
