/- Texts that lie in memory, one behind the other. -/
import Derived.Test.YtgjehnahkbddgaaDoorTxtB
import Derived.Below
import Derived.WalkSmall
namespace Go.Proofs.YtgjehnahkbddgaaDoor
open Go.RowKit
def txt (l : List ByteArray) (i : Nat) : ByteArray := l.getD i ⟨#[]⟩
theorem txt_getElem (l : List ByteArray) (i : Nat) (h : i < l.length) : txt l i = l[i] := by
  unfold txt
  rw [List.getD_eq_getElem?_getD, List.getElem?_eq_getElem h]
  rfl
theorem txt_mem {l : List ByteArray} {i : Nat} (h : i < l.length) : txt l i ∈ l := by
  rw [txt_getElem l i h]
  exact List.getElem_mem h
theorem txt_of_mem {l : List ByteArray} {x : ByteArray} (h : x ∈ l) : ∃ i, i < l.length ∧ txt l i = x := by
  obtain ⟨i, hi, e⟩ := List.getElem_of_mem h
  exact ⟨i, hi, by rw [txt_getElem l i hi, e]⟩
theorem txt_take {l : List ByteArray} {i j : Nat} (h : j < i) : txt (l.take i) j = txt l j := by
  unfold txt
  rw [List.getD_eq_getElem?_getD, List.getD_eq_getElem?_getD, List.getElem?_take_of_lt h]
theorem txt_ext {l m : List ByteArray} (hl : l.length = m.length) (h : ∀ i, i < l.length → txt l i = txt m i) : l = m := by
  refine List.ext_getElem hl fun i h1 h2 => ?_
  rw [← txt_getElem l i h1, ← txt_getElem m i h2]
  exact h i h1
/-- In the world w the texts l lie from p on. -/
def Strs (w : World) (p : Option Addr) (l : List ByteArray) : Prop :=
  l = [] ∨ ∃ b o, p = some ⟨b, o, none⟩ ∧ b < w.heap.size ∧ ∀ i, i < l.length → w.cell? ⟨b, o + i, none⟩ = some (.string (txt l i))
theorem Strs.nil (w : World) (p : Option Addr) : Strs w p [] := Or.inl rfl
theorem Strs.drewN {w : World} {p : Option Addr} {l : List ByteArray} (h : Strs w p l) (n : Nat) : Strs (w.drewN n) p l := h
theorem Strs.below {w w' : World} {p : Option Addr} {l : List ByteArray} (h : Strs w p l) (hb : Below w.heap.size w w') : Strs w' p l := by
  rcases h with h | ⟨b, o, hp, hlt, hc⟩
  · exact Or.inl h
  · exact Or.inr ⟨b, o, hp, Nat.lt_of_lt_of_le hlt hb.size, fun i hi => (hb.cell (p := ⟨b, o + i, none⟩) hlt).trans (hc i hi)⟩
/-- Below B alone nothing turned. -/
theorem Strs.belowAt {w w' : World} {p : Option Addr} {l : List ByteArray} {B : Nat} (h : Strs w p l) (hb : Below B w w') (hB : ∀ b o, p = some ⟨b, o, none⟩ → b < B) : Strs w' p l := by
  rcases h with h | ⟨b, o, hp, hlt, hc⟩
  · exact Or.inl h
  · exact Or.inr ⟨b, o, hp, Nat.lt_of_lt_of_le hlt hb.size, fun i hi => (hb.cell (p := ⟨b, o + i, none⟩) (hB b o hp)).trans (hc i hi)⟩
theorem Strs.take {w : World} {p : Option Addr} {l : List ByteArray} (h : Strs w p l) (i : Nat) : Strs w p (l.take i) := by
  rcases h with h | ⟨b, o, hp, hlt, hc⟩
  · exact Or.inl (by rw [h, List.take_nil])
  · refine Or.inr ⟨b, o, hp, hlt, fun j hj => ?_⟩
    rw [List.length_take] at hj
    rw [hc j (by omega), txt_take (by omega)]
theorem toList_ne {a b : ByteArray} (h : a ≠ b) : ¬ a.toList = b.toList := fun e => h (by
  rw [ByteArray.toList_eq, ByteArray.toList_eq] at e
  exact ByteArray.ext (Array.toList_inj.1 e))
theorem toList_beq {a b : ByteArray} (h : a ≠ b) : (a.toList == b.toList) = false := by simpa using toList_ne h
theorem bytes_beq {a b : ByteArray} (h : a ≠ b) : (a == b) = false := by rw [beq_toListBytes]; exact toList_beq h
end Go.Proofs.YtgjehnahkbddgaaDoor
