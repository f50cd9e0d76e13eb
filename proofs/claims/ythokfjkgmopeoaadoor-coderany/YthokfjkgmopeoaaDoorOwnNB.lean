/- Rows that a call made for itself and writes; products of matrices, place by place. -/
import Derived.Test.YthokfjkgmopeoaaDoorOwnMatB
import Derived.Deep.OwnRows
namespace Go.Proofs.YthokfjkgmopeoaaDoor
open Go.RowKit
/-- The row in block g is the call's own and holds l. -/
def OwnN (w : World) (B : Nat) (E : TypeId) (g n : Nat) (l : List Nat) : Prop := w.ownsRow B E 1 (.slice (some ⟨g, 0, none⟩) n n) n (l.map byteV)
theorem OwnN.made (w : World) (B : Nat) (E : TypeId) (n : Nat) (hB : B ≤ w.heap.size) (hn : n ≤ 1000000) : OwnN (w.alloc (.cells (madeCells #[byteV 0] n) E)) B E w.heap.size n (rowFn n fun _ => 0) := by
  have h := World.ownsRow_lit (base := B) (e := E) (size := 1) w (madeCells #[byteV 0] n) n hB (by unfold maxLen; omega) (by have := congrArg List.length (toList_madeCells_one (byteV 0) n); simpa using this)
  rw [toList_madeCells_one] at h
  have e : (rowFn n fun _ => 0).map byteV = List.replicate n (byteV 0) := by
    simp [rowFn, List.map_const']
  unfold OwnN
  rw [e]
  exact h
theorem OwnN.cell {w : World} {B : Nat} {E : TypeId} {g n : Nat} {l : List Nat} (h : OwnN w B E g n l) (j : Nat) (hj : j < n) (hl : l.length = n) : w.cell? ⟨g, j, none⟩ = some (.int .u8 ((Gf.nth l j : Nat) : Int)) := by
  rw [World.ownsRow.cellAt (w := w) h j (by omega), List.getElem?_map, List.getElem?_eq_getElem (by omega), Gf.nth_getElem l j (by omega)]
  rfl
theorem OwnN.free {w : World} {B : Nat} {E : TypeId} {g n : Nat} {l : List Nat} (h : OwnN w B E g n l) (j : Nat) : w.frozen? ⟨g, j, none⟩ = false := World.ownsRow.frozenAt (w := w) h j
theorem OwnN.set {w : World} {B : Nat} {E : TypeId} {g n : Nat} {f : Nat → Nat} (h : OwnN w B E g n (rowFn n f)) (j v : Nat) : OwnN (w.setCell ⟨g, j, none⟩ (.int .u8 (v : Int))) B E g n (rowFn n (fun i => if i = j then v else f i)) := by
  have := (World.ownsRow.stored (w := w) h j (byteV v)).1
  rw [← List.map_set, rowFn_set] at this
  exact this
theorem OwnN.drewN {w : World} {B : Nat} {E : TypeId} {g n : Nat} {l : List Nat} (h : OwnN w B E g n l) (m : Nat) : OwnN (w.drewN m) B E g n l := World.ownsRow.kept h (grownBy_drewN w m none) (Or.inr (by simp [Value.ownBlock]))
theorem OwnN.own {w : World} {B : Nat} {E : TypeId} {g n : Nat} {l : List Nat} (h : OwnN w B E g n l) (hl : l.length = n) : Own w B E (.slice (some ⟨g, 0, none⟩) n n) l := by
  unfold Own
  rw [hl]
  exact h
theorem OwnN.lt {w : World} {B : Nat} {E : TypeId} {g n : Nat} {l : List Nat} (h : OwnN w B E g n l) : B ≤ g ∧ g < w.heap.size := World.ownsRow.lt h g rfl
/-- Place j of row i of the product, so far. -/
def dotN (A B : List (List Nat)) (i j : Nat) : Nat → Nat
  | 0 => 0
  | k + 1 => dotN A B i j k ^^^ Gf.mul (Gf.nth (rowOf A i) k) (Gf.nth (rowOf B k) j)
/-- The product. -/
def prodM (A B : List (List Nat)) (m : Nat) : List (List Nat) := (List.range m).map fun i => rowFn (rowOf B 0).length fun j => dotN A B i j B.length
theorem prodM_succ (A B : List (List Nat)) (m : Nat) : prodM A B (m + 1) = prodM A B m ++ [rowFn (rowOf B 0).length fun j => dotN A B m j B.length] := by simp [prodM, List.range_succ]
theorem prodM_length (A B : List (List Nat)) (m : Nat) : (prodM A B m).length = m := by simp [prodM]
/-- All bytes of all rows are bytes. -/
def BytesM (M : List (List Nat)) : Prop := ∀ i, Gf.Bytes (rowOf M i)
theorem dotN_lt (A B : List (List Nat)) (hA : BytesM A) (i j : Nat) : ∀ k, dotN A B i j k < 256
  | 0 => by show 0 < 256; decide
  | k + 1 => Gf.xlt (dotN_lt A B hA i j k) (Gf.mul_lt (hA i k) _)
theorem Mat.row {w : World} {p : Option Addr} {M : List (List Nat)} (h : Mat w p M) {i : Nat} (hi : i < M.length) (hne : 0 < (rowOf M i).length) :
    ∃ b o b1 o1 c, p = some ⟨b, o, none⟩ ∧ b < w.heap.size ∧ b1 < w.heap.size ∧ w.cell? ⟨b, o + i, none⟩ = some (.slice (some ⟨b1, o1, none⟩) (rowOf M i).length c) ∧ ∀ j, j < (rowOf M i).length → w.cell? ⟨b1, o1 + j, none⟩ = some (.int .u8 ((Gf.nth (rowOf M i) j : Nat) : Int)) := by
  rcases h with h | ⟨b, o, hp, hb, hc⟩
  · rw [h] at hi; exact absurd hi (Nat.not_lt_zero _)
  · obtain ⟨q, c, h1, h2, _⟩ := hc i hi
    rcases h2.cells with h3 | ⟨b1, o1, hq, hb1, hc1⟩
    · rw [h3] at hne; exact absurd hne (Nat.lt_irrefl _)
    · subst hq
      exact ⟨b, o, b1, o1, c, hp, hb, hb1, h1, hc1⟩
end Go.Proofs.YthokfjkgmopeoaaDoor
