/- Errors by their numbers and places; the four that a ring has, in their variables. -/
import Derived.Test.YtgjehnahkbddgaaDoorProg
import Derived.Below
import Derived.WalkKit
namespace Go.Proofs.YtgjehnahkbddgaaDoor
open Go.RowKit
theorem lt_of_cellE {w : World} {b o : Nat} {v : Value} (h : w.cell? ⟨b, o, none⟩ = some v) : b < w.heap.size := by
  rcases Nat.lt_or_ge b w.heap.size with h' | h'
  · exact h'
  · simp [World.cell?, Array.getElem?_eq_none h'] at h
/-- The error ev is number c, its place at_ (-1: none). -/
def ErrIs (w : World) (ad : Nat → Addr) (ev : Value) (c at_ : Int) : Prop :=
  (ev = .nilIface ∧ c = 0 ∧ at_ = -1) ∨ (∃ i, i < 12 ∧ ev = .iface 101 (.pointer (some (ad i))) ∧ c = ((i + 1 : Nat) : Int) ∧ at_ = -1) ∨
  ∃ i fb, i < 12 ∧ ev = .iface 56 (.pointer (some ⟨fb, 0, none⟩)) ∧ c = ((i + 1 : Nat) : Int) ∧ w.cell? ⟨fb, 0, none⟩ = some (.int .i64 at_) ∧ w.cell? ⟨fb, 1, none⟩ = some (.iface 101 (.pointer (some (ad i))))
theorem ErrIs.below {w w' : World} {ad : Nat → Addr} {ev : Value} {c at_ : Int} (h : ErrIs w ad ev c at_) (hb : Below w.heap.size w w') : ErrIs w' ad ev c at_ := by
  rcases h with h | h | ⟨i, fb, hi, he, hc, h0, h1⟩
  · exact Or.inl h
  · exact Or.inr (Or.inl h)
  · exact Or.inr (Or.inr ⟨i, fb, hi, he, hc, (hb.cell (p := ⟨fb, 0, none⟩) (lt_of_cellE h0)).trans h0, (hb.cell (p := ⟨fb, 1, none⟩) (lt_of_cellE h1)).trans h1⟩)
theorem ErrIs.nil (w : World) (ad : Nat → Addr) : ErrIs w ad .nilIface 0 (-1) := Or.inl ⟨rfl, rfl, rfl⟩
theorem ErrIs.sent {w : World} {ad : Nat → Addr} (i : Nat) (hi : i < 12) : ErrIs w ad (.iface 101 (.pointer (some (ad i)))) ((i + 1 : Nat) : Int) (-1) := Or.inr (Or.inl ⟨i, hi, rfl, rfl, rfl⟩)
theorem ErrIs.some {w : World} {ad : Nat → Addr} {ev : Value} {c at_ : Int} (h : ErrIs w ad ev c at_) (hc : 0 < c) : ∃ t v, ev = .iface t v := by
  rcases h with ⟨_, h0, _⟩ | ⟨i, _, he, _⟩ | ⟨i, fb, _, he, _⟩
  · omega
  · exact ⟨_, _, he⟩
  · exact ⟨_, _, he⟩
/-- The four errors of a ring lie in their variables. -/
structure Errs (w : World) (ad : Nat → Addr) : Prop where
  c1 : w.cell? ⟨0, 0, none⟩ = some (.iface 101 (.pointer (some (ad 1))))
  c3 : w.cell? ⟨4, 0, none⟩ = some (.iface 101 (.pointer (some (ad 3))))
  c5 : w.cell? ⟨5, 0, none⟩ = some (.iface 101 (.pointer (some (ad 5))))
  c7 : w.cell? ⟨7, 0, none⟩ = some (.iface 101 (.pointer (some (ad 7))))
theorem Errs.below {w w' : World} {ad : Nat → Addr} (h : Errs w ad) (hb : Below w.heap.size w w') : Errs w' ad where
  c1 := (hb.cell (lt_of_cellE h.c1)).trans h.c1
  c3 := (hb.cell (lt_of_cellE h.c3)).trans h.c3
  c5 := (hb.cell (lt_of_cellE h.c5)).trans h.c5
  c7 := (hb.cell (lt_of_cellE h.c7)).trans h.c7
end Go.Proofs.YtgjehnahkbddgaaDoor
