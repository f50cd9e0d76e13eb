/-
  DERIVED. GIVEN WITH THE SEED: THE CARDS: each row of YtcoecfpkihakoaaDoorRows.lean that lists a variable, with what it lists TIED to the program's text (the seventh form; the later family's looks); each row that meets fmt, with fmt's text TOLD by the authors' own Lean function (tested against real Go, not proved from fmt's source: count such statements apart). THE CARD IS WHAT COUNTS. Prove the row's statement (the work); the ties are given (YtcoecfpkihakoaaDoorTie.lean); close each card by the builder's one call (the guide's Derived/Test/ToyasCard.lean, 'card_holds'). Laid BY PROGRAM, IN A SANDBOX (cutbox-door.mjs). By AI agents, Wed Nov 11 2026. No macro, syntax, notation, axiom, sorry.
-/
import Derived.Test.YtcoecfpkihakoaaDoorRows
import GoSem.ClaimSeven
namespace Go.Proofs.YtcoecfpkihakoaaDoor
namespace Rows

/-- THE TIED CARD OF 'shardkeeplaw2.ServeSeals'. -/
def serveSealsCard : Claim7 := { stood := { row := serveSealsRow, standIns := [], harness := (true, "33000c188fb42c4205003f0b8ba1d39355d7e167b84ddd271a39d3c00f45aee8"), looks := true }, kinds := [], alts := [], laidByText := true, laidKinds := [.sentinel, .sentinel, .sentinel, .sentinel, .sentinel], laidTests := true, laidLooks := .later }
def ServeSealsCardSaid : Prop := Claim7.holds Tryd.pinned (.plain (OpenSpec.ofChange serveSealsSpec)) serveSealsCard

/-- THE SECOND FORM's CARD OF 'shardkeeplaw2.ServeSeals'. -/
def serveSealsUptoCard : Claim7 := { stood := { row := serveSealsUptoRow, standIns := [], harness := (true, "33000c188fb42c4205003f0b8ba1d39355d7e167b84ddd271a39d3c00f45aee8"), looks := true }, kinds := [], alts := [], laidByText := true, laidKinds := [.sentinel, .sentinel, .sentinel, .sentinel, .sentinel], laidTests := true, laidLooks := .later }
def ServeSealsUptoCardSaid : Prop := Claim7.holds Tryd.pinned (.plain (OpenSpec.upto serveSealsSpec)) serveSealsUptoCard
end Rows
end Go.Proofs.YtcoecfpkihakoaaDoor
