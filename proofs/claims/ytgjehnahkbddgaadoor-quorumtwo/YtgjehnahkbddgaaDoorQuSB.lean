/- Errors in their variables, and what came in. -/
import Derived.Test.YtgjehnahkbddgaaDoorQuCB
import Derived.Test.YtgjehnahkbddgaaDoorFault2W
namespace Go.Proofs.YtgjehnahkbddgaaDoor
open Go.RowKit
theorem Sent.errsQ {w : World} {ad : Nat → Addr} (h : Sent w ad) : ErrsQ w ad := ⟨h.c1, h.c2, h.c3, h.c4, h.c5⟩
theorem ErrIs.setInt {w : World} {ad : Nat → Addr} {ev : Value} {c at_ : Int} {b : Nat} {z : Int} (h : ErrIs w ad ev c at_) (hz : w.cell? ⟨b, 1, none⟩ = Option.some (Value.int .i64 z)) (i : Nat) (v : Value) : ErrIs (w.setCell ⟨b, i, none⟩ v) ad ev c at_ := by
  rcases h with h | h | ⟨k, fb, hk, he, hc, h0, h1⟩
  · exact Or.inl h
  · exact Or.inr (Or.inl h)
  · have hne : fb ≠ b := fun e => by
      subst e
      rw [hz] at h1
      cases h1
    exact Or.inr (Or.inr ⟨k, fb, hk, he, hc, (World.cell?_setCell_other _ _ _ _ (fun e => hne (congrArg Addr.block e).symm)).trans h0, (World.cell?_setCell_other _ _ _ _ (fun e => hne (congrArg Addr.block e).symm)).trans h1⟩)
/-- A list that came in. -/
structure TxsIn (w : World) (l : List ByteArray) (p : Option Addr) (cap : Nat) : Prop where
  strs : Strs w p l
  room : l.length ≤ cap
  empty : p = none → l = [] ∧ cap = 0
  len : l.length ≤ maxLen
  size : ∀ x ∈ l, x.size ≤ maxLen
end Go.Proofs.YtgjehnahkbddgaaDoor
