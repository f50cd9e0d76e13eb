/-
  DERIVED. GIVEN WITH THE SEED: THE CARDS: each row of YtahipofajpcedaaDoorRows.lean that lists a variable, with what it lists TIED to the program's text (the seventh form; the later family's looks); each row that meets fmt, with fmt's text TOLD by the authors' own Lean function (tested against real Go, not proved from fmt's source: count such statements apart). THE CARD IS WHAT COUNTS. Prove the row's statement (the work); the ties are given (YtahipofajpcedaaDoorTie.lean); close each card by the builder's one call (the guide's Derived/Test/ToyasCard.lean, 'card_holds'). Laid BY PROGRAM, IN A SANDBOX (cutbox-door.mjs). By AI agents, Wed Nov 11 2026. No macro, syntax, notation, axiom, sorry.
-/
import Derived.Test.YtahipofajpcedaaDoorRows
import GoSem.ClaimSeven
namespace Go.Proofs.YtahipofajpcedaaDoor
namespace Rows

/-- THE TIED CARD OF 'shardkeeplaw1.SumsCRC'. -/
def sumsCRCCard : Claim7 := { stood := { row := sumsCRCRow, standIns := [], harness := (true, "ce3740e3ed88145270ea8bb751c69b6df82d23147b356b202786cb8776283b35"), looks := true }, kinds := [], alts := [], laidByText := true, laidKinds := [.handle, .sentinel, .sentinel, .sentinel, .sentinel, .sentinel, .sentinel, .sentinel, .sentinel, .sentinel, .sentinel, .sentinel, .sentinel], laidTests := true, laidLooks := .later }
def SumsCRCCardSaid : Prop := Claim7.holds Tryd.pinned (.plain (OpenSpec.ofChange sumsCRCSpec)) sumsCRCCard

/-- THE TIED CARD OF 'shardkeeplaw1.SumsBurst'. -/
def sumsBurstCard : Claim7 := { stood := { row := sumsBurstRow, standIns := [], harness := (true, "ce3740e3ed88145270ea8bb751c69b6df82d23147b356b202786cb8776283b35"), looks := true }, kinds := [], alts := [], laidByText := true, laidKinds := [.handle, .sentinel, .sentinel, .sentinel, .sentinel, .sentinel, .sentinel, .sentinel, .sentinel, .sentinel, .sentinel, .sentinel, .sentinel], laidTests := true, laidLooks := .later }
def SumsBurstCardSaid : Prop := Claim7.holds Tryd.pinned (.plain (OpenSpec.ofChange sumsBurstSpec)) sumsBurstCard

/-- THE SECOND FORM's CARD OF 'shardkeeplaw1.SumsCRC'. -/
def sumsCRCUptoCard : Claim7 := { stood := { row := sumsCRCUptoRow, standIns := [], harness := (true, "ce3740e3ed88145270ea8bb751c69b6df82d23147b356b202786cb8776283b35"), looks := true }, kinds := [], alts := [], laidByText := true, laidKinds := [.handle, .sentinel, .sentinel, .sentinel, .sentinel, .sentinel, .sentinel, .sentinel, .sentinel, .sentinel, .sentinel, .sentinel, .sentinel], laidTests := true, laidLooks := .later }
def SumsCRCUptoCardSaid : Prop := Claim7.holds Tryd.pinned (.plain (OpenSpec.upto sumsCRCSpec)) sumsCRCUptoCard

/-- THE SECOND FORM's CARD OF 'shardkeeplaw1.SumsBurst'. -/
def sumsBurstUptoCard : Claim7 := { stood := { row := sumsBurstUptoRow, standIns := [], harness := (true, "ce3740e3ed88145270ea8bb751c69b6df82d23147b356b202786cb8776283b35"), looks := true }, kinds := [], alts := [], laidByText := true, laidKinds := [.handle, .sentinel, .sentinel, .sentinel, .sentinel, .sentinel, .sentinel, .sentinel, .sentinel, .sentinel, .sentinel, .sentinel, .sentinel], laidTests := true, laidLooks := .later }
def SumsBurstUptoCardSaid : Prop := Claim7.holds Tryd.pinned (.plain (OpenSpec.upto sumsBurstSpec)) sumsBurstUptoCard
end Rows
end Go.Proofs.YtahipofajpcedaaDoor
