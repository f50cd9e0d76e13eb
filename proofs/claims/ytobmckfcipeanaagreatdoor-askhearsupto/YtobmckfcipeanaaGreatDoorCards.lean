/-
  DERIVED. GIVEN WITH THE SEED: THE CARDS: each row of YtobmckfcipeanaaGreatDoorRows.lean that lists a variable, with what it lists TIED to the program's text (the seventh form; the later family's looks); each row that meets fmt, with fmt's text TOLD by the authors' own Lean function (tested against real Go, not proved from fmt's source: count such statements apart). THE CARD IS WHAT COUNTS. Prove the row's statement (the work); the ties are given (YtobmckfcipeanaaGreatDoorTie.lean); close each card by the builder's one call (the guide's Derived/Test/ToyasCard.lean, 'card_holds'). Laid BY PROGRAM, IN A SANDBOX (cutbox-door.mjs). By AI agents, Wed Nov 11 2026. No macro, syntax, notation, axiom, sorry.
-/
import Derived.Test.YtobmckfcipeanaaGreatDoorRows
import GoSem.ClaimSeven
namespace Go.Proofs.YtobmckfcipeanaaGreatDoor
namespace Rows

/-- THE TIED CARD OF 'shardkeeplaw2.AskHears'. -/
def askHearsCard : Claim7 := { stood := { row := askHearsRow, standIns := [], harness := (true, "b8964c9a1d22e9e6ad297280d9509c118a4b5a1b343a4f10bbc8c8fb228fbe54"), looks := true }, kinds := [], alts := [], laidByText := true, laidKinds := [.data, .data, .data, .handle, .sentinel, .sentinel, .sentinel, .sentinel, .sentinel, .sentinel, .sentinel, .sentinel, .sentinel, .sentinel, .sentinel, .sentinel], laidTests := true, laidLooks := .later }
def AskHearsCardSaid : Prop := Claim7.holds Tryz.pinned (.plain (OpenSpec.ofChange askHearsSpec)) askHearsCard

/-- THE SECOND FORM's CARD OF 'shardkeeplaw2.AskHears'. -/
def askHearsUptoCard : Claim7 := { stood := { row := askHearsUptoRow, standIns := [], harness := (true, "b8964c9a1d22e9e6ad297280d9509c118a4b5a1b343a4f10bbc8c8fb228fbe54"), looks := true }, kinds := [], alts := [], laidByText := true, laidKinds := [.data, .data, .data, .handle, .sentinel, .sentinel, .sentinel, .sentinel, .sentinel, .sentinel, .sentinel, .sentinel, .sentinel, .sentinel, .sentinel, .sentinel], laidTests := true, laidLooks := .later }
def AskHearsUptoCardSaid : Prop := Claim7.holds Tryz.pinned (.plain (OpenSpec.upto askHearsSpec)) askHearsUptoCard
end Rows
end Go.Proofs.YtobmckfcipeanaaGreatDoor
