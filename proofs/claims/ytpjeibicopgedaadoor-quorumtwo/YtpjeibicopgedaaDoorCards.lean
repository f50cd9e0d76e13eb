/-
  DERIVED. GIVEN WITH THE SEED: THE CARDS: each row of YtpjeibicopgedaaDoorRows.lean that lists a variable, with what it lists TIED to the program's text (the seventh form; the later family's looks); each row that meets fmt, with fmt's text TOLD by the authors' own Lean function (tested against real Go, not proved from fmt's source: count such statements apart). THE CARD IS WHAT COUNTS. Prove the row's statement (the work); the ties are given (YtpjeibicopgedaaDoorTie.lean); close each card by the builder's one call (the guide's Derived/Test/ToyasCard.lean, 'card_holds'). Laid BY PROGRAM, IN A SANDBOX (cutbox-door.mjs). By AI agents, Wed Nov 11 2026. No macro, syntax, notation, axiom, sorry.
-/
import Derived.Test.YtpjeibicopgedaaDoorRows
import GoSem.ClaimSeven
namespace Go.Proofs.YtpjeibicopgedaaDoor
namespace Rows

/-- THE TIED CARD OF 'shardkeeplaw2.QuorumMeets'. -/
def quorumMeetsCard : Claim7 := { stood := { row := quorumMeetsRow, standIns := [], harness := (true, "b9969952722b0526955e246d3769d03e1180aee4ceccb42cd5de8329c74f523a"), looks := true }, kinds := [], alts := [], laidByText := true, laidKinds := [.handle, .sentinel, .sentinel, .sentinel, .sentinel, .sentinel, .sentinel, .sentinel, .sentinel, .sentinel, .sentinel, .sentinel, .sentinel], laidTests := true, laidLooks := .later }
def QuorumMeetsCardSaid : Prop := Claim7.holds Tryd.pinned (.plain (OpenSpec.ofChange quorumMeetsSpec)) quorumMeetsCard

/-- THE TIED CARD OF 'shardkeeplaw2.QuorumTwo'. -/
def quorumTwoCard : Claim7 := { stood := { row := quorumTwoRow, standIns := [], harness := (true, "b9969952722b0526955e246d3769d03e1180aee4ceccb42cd5de8329c74f523a"), looks := true }, kinds := [], alts := [], laidByText := true, laidKinds := [.sentinel, .sentinel, .sentinel, .sentinel, .sentinel], laidTests := true, laidLooks := .later }
def QuorumTwoCardSaid : Prop := Claim7.holds Tryd.pinned (.plain (OpenSpec.ofChange quorumTwoSpec)) quorumTwoCard

/-- THE SECOND FORM's CARD OF 'shardkeeplaw2.QuorumMeets'. -/
def quorumMeetsUptoCard : Claim7 := { stood := { row := quorumMeetsUptoRow, standIns := [], harness := (true, "b9969952722b0526955e246d3769d03e1180aee4ceccb42cd5de8329c74f523a"), looks := true }, kinds := [], alts := [], laidByText := true, laidKinds := [.handle, .sentinel, .sentinel, .sentinel, .sentinel, .sentinel, .sentinel, .sentinel, .sentinel, .sentinel, .sentinel, .sentinel, .sentinel], laidTests := true, laidLooks := .later }
def QuorumMeetsUptoCardSaid : Prop := Claim7.holds Tryd.pinned (.plain (OpenSpec.upto quorumMeetsSpec)) quorumMeetsUptoCard

/-- THE SECOND FORM's CARD OF 'shardkeeplaw2.QuorumTwo'. -/
def quorumTwoUptoCard : Claim7 := { stood := { row := quorumTwoUptoRow, standIns := [], harness := (true, "b9969952722b0526955e246d3769d03e1180aee4ceccb42cd5de8329c74f523a"), looks := true }, kinds := [], alts := [], laidByText := true, laidKinds := [.sentinel, .sentinel, .sentinel, .sentinel, .sentinel], laidTests := true, laidLooks := .later }
def QuorumTwoUptoCardSaid : Prop := Claim7.holds Tryd.pinned (.plain (OpenSpec.upto quorumTwoSpec)) quorumTwoUptoCard
end Rows
end Go.Proofs.YtpjeibicopgedaaDoor
