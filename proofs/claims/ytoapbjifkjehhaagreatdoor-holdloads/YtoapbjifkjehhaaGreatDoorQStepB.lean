/- A quiet region with a guard that is not met, step by step. -/
import Derived.Test.YtoapbjifkjehhaaGreatDoorProg
import Derived.WalkKit
import Derived.Shelf.SlSortCmp.QuietGrown
namespace Go.Proofs.YtoapbjifkjehhaaGreatDoor
open Go.RowKit Go.Sort
/-- What follows in a region, kept shut. -/
structure KeptQ (p : Prop) : Prop where
  out : p
theorem qstep {P : Program} {ops : Array Oper} {C : World → Prop} {Q : Act → Prop} {a : Act} {o : Oper} {rest : List Oper}
    (h : ∀ K : Act → Prop, (∀ a, KeptQ (wpQuiet P ops C Q rest a) → K a) → if Region.wanted o (yielded ops a.tmps) then o.quiet P a C K else K (a.put o.dst undef)) : KeptQ (wpQuiet P ops C Q (o :: rest) a) :=
  ⟨wpQuiet_step (fun K hK => h K (fun a ha => hK a ha.out))⟩
end Go.Proofs.YtoapbjifkjehhaaGreatDoor
