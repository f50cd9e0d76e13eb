/- Shards that lie in memory, one behind the other: a number and a text each. -/
import Derived.Test.YtakfjkphmfblaaaGreatDoorG1
import Derived.Below
import Derived.WalkSmall
namespace Go.Proofs.YtakfjkphmfblaaaGreatDoor
open Go.RowKit
def shAt (l : List (Int × ByteArray)) (i : Nat) : Int × ByteArray := l.getD i (0, ⟨#[]⟩)
/-- In the world w the shards l lie from p on. -/
def Shs (w : World) (p : Option Addr) (l : List (Int × ByteArray)) : Prop :=
  l = [] ∨ ∃ b o, p = some ⟨b, o, none⟩ ∧ b < w.heap.size ∧ ∀ i, i < l.length → w.cell? ⟨b, o + i * 2, none⟩ = some (.int .i64 (shAt l i).1) ∧ w.cell? ⟨b, o + i * 2 + 1, none⟩ = some (.string (shAt l i).2)
theorem Shs.below {w w' : World} {p : Option Addr} {l : List (Int × ByteArray)} (h : Shs w p l) (hb : Below w.heap.size w w') : Shs w' p l := by
  rcases h with h | ⟨b, o, hp, hlt, hc⟩
  · exact Or.inl h
  · exact Or.inr ⟨b, o, hp, Nat.lt_of_lt_of_le hlt hb.size, fun i hi => ⟨(hb.cell (p := ⟨b, o + i * 2, none⟩) hlt).trans (hc i hi).1, (hb.cell (p := ⟨b, o + i * 2 + 1, none⟩) hlt).trans (hc i hi).2⟩⟩
end Go.Proofs.YtakfjkphmfblaaaGreatDoor
