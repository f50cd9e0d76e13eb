/-
  DERIVED. GIVEN WITH THE SEED: THE CARDS: each row of YtppcijpgalaohaaGreatDoorRows.lean that lists a variable, with what it lists TIED to the program's text (the seventh form; the later family's looks); each row that meets fmt, with fmt's text TOLD by the authors' own Lean function (tested against real Go, not proved from fmt's source: count such statements apart). THE CARD IS WHAT COUNTS. Prove the row's statement (the work); the ties are given (YtppcijpgalaohaaGreatDoorTie.lean); close each card by the builder's one call (the guide's Derived/Test/ToyasCard.lean, 'card_holds'). Laid BY PROGRAM, IN A SANDBOX (cutbox-door.mjs). By AI agents, Wed Nov 11 2026. No macro, syntax, notation, axiom, sorry.
-/
import Derived.Test.YtppcijpgalaohaaGreatDoorRows
import GoSem.ClaimSeven
namespace Go.Proofs.YtppcijpgalaohaaGreatDoor
namespace Rows

/-- THE TIED CARD OF 'shardkeeplaw1.RingPrefers'. -/
def ringPrefersCard : Claim7 := { stood := { row := ringPrefersRow, standIns := [], harness := (true, "a65d37238eff9b7b0ff2ace68ca031d8aea835c8dc571fee8cf8f6bf954d2e90"), looks := true }, kinds := [], alts := [], laidByText := true, laidKinds := [.data, .data, .data, .handle, .sentinel, .sentinel, .sentinel, .sentinel, .sentinel, .sentinel, .sentinel, .sentinel, .sentinel, .sentinel, .sentinel, .sentinel], laidTests := true, laidLooks := .later }
def RingPrefersCardSaid : Prop := Claim7.holds Tryz.pinned (.plain (OpenSpec.ofChange ringPrefersSpec)) ringPrefersCard

/-- THE TIED CARD OF 'shardkeeplaw1.RingMoves'. -/
def ringMovesCard : Claim7 := { stood := { row := ringMovesRow, standIns := [], harness := (true, "a65d37238eff9b7b0ff2ace68ca031d8aea835c8dc571fee8cf8f6bf954d2e90"), looks := true }, kinds := [], alts := [], laidByText := true, laidKinds := [.data, .data, .data, .handle, .sentinel, .sentinel, .sentinel, .sentinel, .sentinel, .sentinel, .sentinel, .sentinel, .sentinel, .sentinel, .sentinel, .sentinel], laidTests := true, laidLooks := .later }
def RingMovesCardSaid : Prop := Claim7.holds Tryz.pinned (.plain (OpenSpec.ofChange ringMovesSpec)) ringMovesCard

/-- THE SECOND FORM's CARD OF 'shardkeeplaw1.RingPrefers'. -/
def ringPrefersUptoCard : Claim7 := { stood := { row := ringPrefersUptoRow, standIns := [], harness := (true, "a65d37238eff9b7b0ff2ace68ca031d8aea835c8dc571fee8cf8f6bf954d2e90"), looks := true }, kinds := [], alts := [], laidByText := true, laidKinds := [.data, .data, .data, .handle, .sentinel, .sentinel, .sentinel, .sentinel, .sentinel, .sentinel, .sentinel, .sentinel, .sentinel, .sentinel, .sentinel, .sentinel], laidTests := true, laidLooks := .later }
def RingPrefersUptoCardSaid : Prop := Claim7.holds Tryz.pinned (.plain (OpenSpec.upto ringPrefersSpec)) ringPrefersUptoCard

/-- THE SECOND FORM's CARD OF 'shardkeeplaw1.RingMoves'. -/
def ringMovesUptoCard : Claim7 := { stood := { row := ringMovesUptoRow, standIns := [], harness := (true, "a65d37238eff9b7b0ff2ace68ca031d8aea835c8dc571fee8cf8f6bf954d2e90"), looks := true }, kinds := [], alts := [], laidByText := true, laidKinds := [.data, .data, .data, .handle, .sentinel, .sentinel, .sentinel, .sentinel, .sentinel, .sentinel, .sentinel, .sentinel, .sentinel, .sentinel, .sentinel, .sentinel], laidTests := true, laidLooks := .later }
def RingMovesUptoCardSaid : Prop := Claim7.holds Tryz.pinned (.plain (OpenSpec.upto ringMovesSpec)) ringMovesUptoCard
end Rows
end Go.Proofs.YtppcijpgalaohaaGreatDoor
