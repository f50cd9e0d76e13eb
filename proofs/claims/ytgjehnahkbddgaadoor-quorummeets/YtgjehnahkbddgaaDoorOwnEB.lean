/- Values in a row of the call's own, changed one by one; numbers that came in. -/
import Derived.Test.YtgjehnahkbddgaaDoorProg
import Derived.WalkKit
import Derived.Below
import Derived.OwnWalk
import Derived.Deep.OwnRows
namespace Go.Proofs.YtgjehnahkbddgaaDoor
open Go.RowKit
theorem map_range_set (r : Nat) (vf : Nat → Value) (j : Nat) (v : Value) : ((List.range r).map vf).set j v = (List.range r).map (fun i => if i = j then v else vf i) := by
  apply List.ext_getElem?
  intro i
  rw [List.getElem?_set, List.getElem?_map, List.getElem?_map]
  by_cases hi : i < r
  · rw [List.getElem?_range hi]
    by_cases e : j = i
    · subst e; simp [hi]
    · have e' : ¬ i = j := fun h => e h.symm
      simp [e, e']
  · rw [List.getElem?_eq_none (by simpa using hi)]
    by_cases e : j = i
    · subst e; simp [hi]
    · simp [e]
/-- Values of type E in a row of the call's own. -/
def OwnE (w : World) (E : TypeId) (B g r : Nat) (vf : Nat → Value) : Prop := w.ownsRow B E 1 (.slice (some ⟨g, 0, none⟩) r r) r ((List.range r).map vf)
theorem OwnE.made (w : World) (E : TypeId) (z : Value) (B r : Nat) (hB : B ≤ w.heap.size) (hr : r ≤ 1000000) : OwnE (w.alloc (.cells (madeCells #[z] r) E)) E B w.heap.size r (fun _ => z) := by
  have h := World.ownsRow_lit (base := B) (e := E) (size := 1) w (madeCells #[z] r) r hB (by unfold maxLen; omega) (by have := congrArg List.length (toList_madeCells_one z r); simpa using this)
  rw [toList_madeCells_one] at h
  unfold OwnE
  rw [List.map_const', List.length_range]
  exact h
theorem OwnE.cell {w : World} {E : TypeId} {B g r : Nat} {vf : Nat → Value} (h : OwnE w E B g r vf) (j : Nat) (hj : j < r) : w.cell? ⟨g, j, none⟩ = some (vf j) := by
  rw [World.ownsRow.cellAt (w := w) h j (by omega), List.getElem?_map, List.getElem?_range hj]
  rfl
theorem OwnE.free {w : World} {E : TypeId} {B g r : Nat} {vf : Nat → Value} (h : OwnE w E B g r vf) (j : Nat) : w.frozen? ⟨g, j, none⟩ = false := World.ownsRow.frozenAt (w := w) h j
theorem OwnE.set {w : World} {E : TypeId} {B g r : Nat} {vf : Nat → Value} (h : OwnE w E B g r vf) (j : Nat) (v : Value) : OwnE (w.setCell ⟨g, j, none⟩ v) E B g r (fun i => if i = j then v else vf i) := by
  have := (World.ownsRow.stored (w := w) h j v).1
  rw [map_range_set] at this
  exact this
theorem OwnE.kept {w w' : World} {E : TypeId} {B g r : Nat} {vf : Nat → Value} {row : Option Nat} (h : OwnE w E B g r vf) (hg : w.grownBy w' row) (hne : row ≠ some g) : OwnE w' E B g r vf :=
  World.ownsRow.kept h hg (Or.inr (fun e => hne e.symm))
theorem OwnE.congr {w : World} {E : TypeId} {B g r : Nat} {vf vg : Nat → Value} (h : OwnE w E B g r vf) (he : ∀ i, i < r → vf i = vg i) : OwnE w E B g r vg := by
  unfold OwnE
  rw [List.map_congr_left (g := vf) (fun i hi => (he i (List.mem_range.1 hi)).symm)]
  exact h
theorem OwnE.lt {w : World} {E : TypeId} {B g r : Nat} {vf : Nat → Value} (h : OwnE w E B g r vf) : B ≤ g ∧ g < w.heap.size := World.ownsRow.lt h g rfl
/-- In the world w the numbers l lie from p on. -/
def Ints (w : World) (p : Option Addr) (l : List Int) : Prop := l = [] ∨ ∃ b o, p = some ⟨b, o, none⟩ ∧ b < w.heap.size ∧ ∀ i, i < l.length → w.cell? ⟨b, o + i, none⟩ = some (.int .i64 (l.getD i 0))
theorem Ints.below {w w' : World} {p : Option Addr} {l : List Int} (h : Ints w p l) (hb : Below w.heap.size w w') : Ints w' p l := by
  rcases h with h | ⟨b, o, hp, hlt, hc⟩
  · exact Or.inl h
  · exact Or.inr ⟨b, o, hp, Nat.lt_of_lt_of_le hlt hb.size, fun i hi => (hb.cell (p := ⟨b, o + i, none⟩) hlt).trans (hc i hi)⟩
/-- Unlike ones among others: no more than those. -/
theorem length_le_of_subset : ∀ (l X : List Nat), l.Nodup → (∀ x ∈ l, x ∈ X) → l.length ≤ X.length
  | [], _, _, _ => Nat.zero_le _
  | a :: t, X, hn, hs => by
    have ha : a ∈ X := hs a (List.mem_cons_self ..)
    have hn' := List.nodup_cons.1 hn
    have := length_le_of_subset t (X.erase a) hn'.2 (fun x hx => (List.mem_erase_of_ne (fun e => hn'.1 (by rw [← e]; exact hx))).2 (hs x (List.mem_cons_of_mem _ hx)))
    rw [List.length_erase_of_mem ha] at this
    have hp := List.length_pos_of_mem ha
    simp only [List.length_cons]
    omega
theorem boolinfo : (Tryd.prog.info? 4).map (fun i => (i.zero, i.size, i.bytes)) = some (some (.bool false), 1, 1) := by kernel_rfl
end Go.Proofs.YtgjehnahkbddgaaDoor
