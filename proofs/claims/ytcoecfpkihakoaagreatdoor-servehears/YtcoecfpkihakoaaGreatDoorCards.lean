/-
  DERIVED. GIVEN WITH THE SEED: THE CARDS: each row of YtcoecfpkihakoaaGreatDoorRows.lean that lists a variable, with what it lists TIED to the program's text (the seventh form; the later family's looks); each row that meets fmt, with fmt's text TOLD by the authors' own Lean function (tested against real Go, not proved from fmt's source: count such statements apart). THE CARD IS WHAT COUNTS. Prove the row's statement (the work); the ties are given (YtcoecfpkihakoaaGreatDoorTie.lean); close each card by the builder's one call (the guide's Derived/Test/ToyasCard.lean, 'card_holds'). Laid BY PROGRAM, IN A SANDBOX (cutbox-door.mjs). By AI agents, Wed Nov 11 2026. No macro, syntax, notation, axiom, sorry.
-/
import Derived.Test.YtcoecfpkihakoaaGreatDoorRows
import GoSem.ClaimSeven
namespace Go.Proofs.YtcoecfpkihakoaaGreatDoor
namespace Rows

/-- THE TIED CARD OF 'shardkeeplaw2.ServeHears'. -/
def serveHearsCard : Claim7 := { stood := { row := serveHearsRow, standIns := [], harness := (true, "65c4fee33ec1398eefd63027bb84c7a7632117734250e609fdd0b91ab5d986dd"), looks := true }, kinds := [], alts := [], laidByText := true, laidKinds := [.handle, .sentinel, .sentinel, .sentinel, .sentinel, .sentinel, .sentinel, .sentinel, .sentinel, .sentinel, .sentinel, .sentinel, .sentinel], laidTests := true, laidLooks := .later }
def ServeHearsCardSaid : Prop := Claim7.holds Tryz.pinned (.plain (OpenSpec.ofChange serveHearsSpec)) serveHearsCard

/-- THE SECOND FORM's CARD OF 'shardkeeplaw2.ServeHears'. -/
def serveHearsUptoCard : Claim7 := { stood := { row := serveHearsUptoRow, standIns := [], harness := (true, "65c4fee33ec1398eefd63027bb84c7a7632117734250e609fdd0b91ab5d986dd"), looks := true }, kinds := [], alts := [], laidByText := true, laidKinds := [.handle, .sentinel, .sentinel, .sentinel, .sentinel, .sentinel, .sentinel, .sentinel, .sentinel, .sentinel, .sentinel, .sentinel, .sentinel], laidTests := true, laidLooks := .later }
def ServeHearsUptoCardSaid : Prop := Claim7.holds Tryz.pinned (.plain (OpenSpec.upto serveHearsSpec)) serveHearsUptoCard
end Rows
end Go.Proofs.YtcoecfpkihakoaaGreatDoor
