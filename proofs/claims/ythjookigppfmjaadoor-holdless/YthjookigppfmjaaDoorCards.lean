/-
  DERIVED. GIVEN WITH THE SEED: THE CARDS: each row of YthjookigppfmjaaDoorRows.lean that lists a variable, with what it lists TIED to the program's text (the seventh form; the later family's looks); each row that meets fmt, with fmt's text TOLD by the authors' own Lean function (tested against real Go, not proved from fmt's source: count such statements apart). THE CARD IS WHAT COUNTS. Prove the row's statement (the work); the ties are given (YthjookigppfmjaaDoorTie.lean); close each card by the builder's one call (the guide's Derived/Test/ToyasCard.lean, 'card_holds'). Laid BY PROGRAM, IN A SANDBOX (cutbox-door.mjs). By AI agents, Wed Nov 11 2026. No macro, syntax, notation, axiom, sorry.
-/
import Derived.Test.YthjookigppfmjaaDoorRows
import GoSem.ClaimSeven
namespace Go.Proofs.YthjookigppfmjaaDoor
namespace Rows

/-- THE TIED CARD OF 'shardkeeplaw2.HoldLess'. -/
def holdLessCard : Claim7 := { stood := { row := holdLessRow, standIns := [], harness := (true, "f16f44b8505b5b0bbfe27265a01ac72f448a513ea701dd5f033fc974cf2980ee"), looks := false }, kinds := [], alts := [], laidByText := true, laidKinds := [.sentinel, .sentinel, .sentinel, .sentinel, .sentinel], laidTests := true, laidLooks := .later }
def HoldLessCardSaid : Prop := Claim7.holds Tryd.pinned (.plain (OpenSpec.ofChange holdLessSpec)) holdLessCard

/-- THE SECOND FORM's CARD OF 'shardkeeplaw2.HoldLess'. -/
def holdLessUptoCard : Claim7 := { stood := { row := holdLessUptoRow, standIns := [], harness := (true, "f16f44b8505b5b0bbfe27265a01ac72f448a513ea701dd5f033fc974cf2980ee"), looks := false }, kinds := [], alts := [], laidByText := true, laidKinds := [.sentinel, .sentinel, .sentinel, .sentinel, .sentinel], laidTests := true, laidLooks := .later }
def HoldLessUptoCardSaid : Prop := Claim7.holds Tryd.pinned (.plain (OpenSpec.upto holdLessSpec)) holdLessUptoCard
end Rows
end Go.Proofs.YthjookigppfmjaaDoor
