/-
  DERIVED. GIVEN WITH THE SEED: THE PROGRAM's TIES (one call each: nine closed facts by the kernel) AND EACH ROW's TIE, after the 31st guide's Derived/Test/Toyas{Tie, Card}.lean. No idea stands in it: it is a product of the set-up. Laid BY PROGRAM, IN A SANDBOX (cutbox-door.mjs). By AI agents, Wed Nov 11 2026. No macro, syntax, notation, axiom, sorry.
-/
import Derived.Test.YthjookigppfmjaaDoorRows
import Derived.LaidByTextLater
import Derived.SevenTiedAt
import Derived.LaidSub
import Derived.LaidOnce
namespace Go.Proofs.YthjookigppfmjaaDoor
open Go
set_option maxRecDepth 100000
theorem seatTie1 : Tryd.prog.laidByTextLater [("shardkeep/api.ErrBound", Rows.laid_shardkeep_api_ErrBound), ("shardkeep/api.ErrName", Rows.laid_shardkeep_api_ErrName), ("shardkeep/api.ErrExist", Rows.laid_shardkeep_api_ErrExist), ("shardkeep/api.ErrFull", Rows.laid_shardkeep_api_ErrFull), ("shardkeep/api.ErrOld", Rows.laid_shardkeep_api_ErrOld)] [.sentinel, .sentinel, .sentinel, .sentinel, .sentinel] true :=
  Program.laidByTextLater_by_one 104 8 2 (by kernel_rfl) (by kernel_rfl) (by kernel_rfl) (by kernel_rfl) (by kernel_rfl) (by kernel_rfl) (fun _ _ => by kernel_rfl)
theorem noOwnUnsafe : Tryd.pinned.checked.prog.headLifts.contains "ownunsafe" = false := by kernel_rfl
theorem tie : Tryd.prog.laidByTextLater [("shardkeep/api.ErrBound", Rows.laid_shardkeep_api_ErrBound), ("shardkeep/api.ErrName", Rows.laid_shardkeep_api_ErrName), ("shardkeep/api.ErrExist", Rows.laid_shardkeep_api_ErrExist), ("shardkeep/api.ErrFull", Rows.laid_shardkeep_api_ErrFull), ("shardkeep/api.ErrOld", Rows.laid_shardkeep_api_ErrOld)] [.sentinel, .sentinel, .sentinel, .sentinel, .sentinel] true :=
  Program.laidByTextLater.sub seatTie1 ["shardkeep/api.ErrBound", "shardkeep/api.ErrName", "shardkeep/api.ErrExist", "shardkeep/api.ErrFull", "shardkeep/api.ErrOld"] (by kernel_rfl) (by kernel_rfl)
theorem holdLess_row_tie : Rows.holdLessRow.laidByTextAt .later Tryd.pinned [.sentinel, .sentinel, .sentinel, .sentinel, .sentinel] true :=
  OpenClaim.laidByTextAt_later rfl rfl tie noOwnUnsafe
theorem holdLessUpto_row_tie : Rows.holdLessUptoRow.laidByTextAt .later Tryd.pinned [.sentinel, .sentinel, .sentinel, .sentinel, .sentinel] true :=
  OpenClaim.laidByTextAt_later rfl rfl tie noOwnUnsafe
end Go.Proofs.YthjookigppfmjaaDoor
