/- A row of bytes that a call made for itself, and writes. -/
import Derived.Test.YteppmkpckdmnaaaDoorTxtB
import Derived.Test.YteppmkpckdmnaaaDoorStrB
import Derived.Below
import Derived.Deep.OwnRows
import Derived.Lib.ConvBytes
namespace Go.Proofs.YteppmkpckdmnaaaDoor
open Go.RowKit
/-- In block g lie the bytes l, none frozen. -/
def BRow (w : World) (g : Nat) (l : List Nat) : Prop := g < w.heap.size ∧ Gf.Bytes l ∧ ∀ j, j < l.length → w.cell? ⟨g, j, none⟩ = some (.int .u8 ((Gf.nth l j : Nat) : Int)) ∧ w.frozen? ⟨g, j, none⟩ = false
theorem BRow.cell {w : World} {g : Nat} {l : List Nat} (h : BRow w g l) {j : Nat} (hj : j < l.length) : w.cell? ⟨g, j, none⟩ = some (.int .u8 ((Gf.nth l j : Nat) : Int)) := (h.2.2 j hj).1
theorem BRow.free {w : World} {g : Nat} {l : List Nat} (h : BRow w g l) {j : Nat} (hj : j < l.length) : w.frozen? ⟨g, j, none⟩ = false := (h.2.2 j hj).2
theorem brow_nth_set {l : List Nat} {i j v : Nat} (hi : i < l.length) : Gf.nth (l.set i v) j = if j = i then v else Gf.nth l j := by
  show (l.set i v).getD j 0 = if j = i then v else l.getD j 0
  rw [List.getD_eq_getElem?_getD, List.getElem?_set]
  by_cases e : i = j
  · rw [if_pos e, if_pos hi, if_pos e.symm]; rfl
  · rw [if_neg e, if_neg (fun h => e h.symm), List.getD_eq_getElem?_getD]
theorem BRow.set {w : World} {g : Nat} {l : List Nat} (h : BRow w g l) {i : Nat} (hi : i < l.length) {v : Nat} (hv : v < 256) : BRow (w.setCell ⟨g, i, none⟩ (.int .u8 (v : Int))) g (l.set i v) := by
  refine ⟨by simpa using h.1, fun j => ?_, fun j hj => ?_⟩
  · rw [brow_nth_set hi]
    split
    · exact hv
    · exact h.2.1 j
  · rw [List.length_set] at hj
    rw [brow_nth_set hi, World.frozen?_setCell]
    refine ⟨?_, h.free hj⟩
    by_cases e : j = i
    · subst e
      rw [if_pos rfl]
      exact World.cell?_setCell_same _ _ _ (h.cell hj)
    · rw [if_neg e, World.cell?_setCell_other _ _ _ _ (fun h2 => e (by have h3 := congrArg Addr.off h2; exact h3.symm))]
      exact h.cell hj
theorem BRow.seg {w : World} {g : Nat} {l : List Nat} (h : BRow w g l) : Seg w (some ⟨g, 0, none⟩) l := ⟨h.2.1, Or.inr ⟨g, 0, rfl, h.1, fun i hi => by rw [Nat.zero_add]; exact h.cell hi⟩⟩
theorem BRow.drewN {w : World} {g : Nat} {l : List Nat} (h : BRow w g l) (n : Nat) : BRow (w.drewN n) g l := h
theorem BRow.made (w : World) (n : Nat) (t : TypeId) : BRow (w.alloc (.cells (madeCells #[.int .u8 0] n) t)) w.heap.size (List.replicate n 0) := by
  have h := World.rowIs_made w (.int .u8 0) n t
  have hn : ∀ j, Gf.nth (List.replicate n 0) j = 0 := fun j => by
    show (List.replicate n 0).getD j 0 = 0
    rw [List.getD_eq_getElem?_getD, List.getElem?_replicate]
    split <;> rfl
  refine ⟨World.rowIs.lt h, fun j => by rw [hn]; decide, fun j hj => ?_⟩
  rw [List.length_replicate] at hj
  rw [hn]
  exact ⟨World.rowIs.cell h hj, World.rowIs.frozen h j⟩
theorem brow_bytesWorld (w : World) (e : TypeId) (s : ByteArray) : BRow (Lib.bytesWorld w e s) w.heap.size (bytesOf s) := by
  refine ⟨by rw [Lib.bytesWorld_size]; omega, bytesOf_lt s, fun j hj => ?_⟩
  rw [bytesOf_length] at hj
  constructor
  · rw [Lib.bytesWorld_cell w e s j hj, bytesOf_nth s j hj, List.getD_eq_getElem?_getD, List.getElem?_eq_getElem (by simpa using hj)]
    rfl
  · have hs : s.size ≤ (Lib.bytesCells w e s).size := by
      unfold Lib.bytesCells
      rw [Array.size_append, Array.size_map]
      show s.size ≤ s.size + _
      omega
    simp [World.frozen?, Lib.bytesWorld_at_new]
    omega
theorem below_bytesWorld (w : World) (e : TypeId) (s : ByteArray) : Below w.heap.size w (Lib.bytesWorld w e s) :=
  ⟨rfl, rfl, rfl, by rw [Lib.bytesWorld_size]; omega, fun k hk => Lib.bytesWorld_at_old w e s k hk⟩
end Go.Proofs.YteppmkpckdmnaaaDoor
