/- The document's own Prefer: its points, all of them. -/
import Derived.Test.YtakfjkphmfblaaaGreatDoorRDecimW
import Derived.Test.YtakfjkphmfblaaaGreatDoorShVB
import Derived.Test.YtakfjkphmfblaaaGreatDoorRIndexW
import Derived.Test.YtakfjkphmfblaaaGreatDoorOwnTB
import Derived.Deep.RegionHeld3
namespace Go.Proofs.YtakfjkphmfblaaaGreatDoor
open Go.RowKit Ring
/-- Point j of all: its number from h on, its node. -/
def pA (h : Nat) (nodes : List ByteArray) (j : Nat) : Nat := ptA h (txt nodes (j / 8)) (j % 8)
def pX (nodes : List ByteArray) (j : Nat) : ByteArray := txt nodes (j / 8)
def ptsI (h : Nat) (nodes : List ByteArray) (m : Nat) : List (Int × ByteArray) := (List.range m).map fun j => (((pA h nodes j : Nat) : Int), pX nodes j)
theorem ptsI_length (h : Nat) (nodes : List ByteArray) (m : Nat) : (ptsI h nodes m).length = m := by simp [ptsI]
theorem ptsI_succ (h : Nat) (nodes : List ByteArray) (m : Nat) : ptsI h nodes (m + 1) = ptsI h nodes m ++ [(((pA h nodes m : Nat) : Int), pX nodes m)] := by simp [ptsI, List.range_succ]
theorem ptsI_at (h : Nat) (nodes : List ByteArray) {m j : Nat} (hj : j < m) : shAt (ptsI h nodes m) j = (((pA h nodes j : Nat) : Int), pX nodes j) := by
  unfold shAt
  rw [List.getD_eq_getElem?_getD, List.getElem?_eq_getElem (by rw [ptsI_length]; exact hj)]
  simp [ptsI]
theorem pts_snoc (l : List (Int × ByteArray)) (x : Int × ByteArray) : shVals (l ++ [x]) = shVals l ++ [.int .i64 x.1, .string x.2] := by simp [shVals]
theorem pointinfo : (Tryz.prog.info? 62).map (fun i => (i.zero, i.size, i.bytes)) = some (some (.agg #[.int .i64 0, .string ⟨#[]⟩]), 2, 24) := by kernel_rfl
/-- v owns the first m points in a row from block B on. -/
def OwnP (w : World) (B : Nat) (v : Value) (ps : List (Int × ByteArray)) : Prop := w.ownsRow B 62 2 v ps.length (shVals ps)
theorem OwnP.kept {w w' : World} {B : Nat} {v : Value} {l : List (Int × ByteArray)} (h : OwnP w B v l) (hb : Below w.heap.size w w') : OwnP w' B v l :=
  World.ownsRow.kept (row := none) h ⟨hb.os, hb.tape, hb.output, hb.size, fun k hk _ => hb.block k hk⟩ (by cases v.ownBlock <;> simp)
end Go.Proofs.YtakfjkphmfblaaaGreatDoor
