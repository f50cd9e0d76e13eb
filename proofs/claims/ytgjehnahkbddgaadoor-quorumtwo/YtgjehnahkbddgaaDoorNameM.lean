/- Names, nodes, their faults. -/
import Derived.Test.YtgjehnahkbddgaaDoorStrsB
namespace Go.Proofs.YtgjehnahkbddgaaDoor
open Go.RowKit
/-- The first place where it stands. -/
def idxN (l : List ByteArray) (s : ByteArray) : Nat := l.findIdx fun x => decide (x = s)
theorem idxN_eq {l : List ByteArray} {s : ByteArray} {i : Nat} (hi : i < l.length) (h : txt l i = s) (hall : ∀ j, j < i → txt l j ≠ s) : idxN l s = i := by
  unfold idxN
  rw [List.findIdx_eq hi]
  refine ⟨decide_eq_true (by rw [← txt_getElem l i hi]; exact h), fun j hj => decide_eq_false ?_⟩
  rw [← txt_getElem l j (by omega)]
  exact hall j hj
/-- A sign that a name may have. -/
def letterB (c : Nat) : Bool := decide (97 ≤ c ∧ c ≤ 122) || decide (48 ≤ c ∧ c ≤ 57) || decide (c = 45)
/-- A name. -/
def isN (s : ByteArray) : Bool := decide (1 ≤ s.size ∧ s.size ≤ 16) && (bytesOf s).all letterB
theorem isN_size {s : ByteArray} (h : isN s = true) : 1 ≤ s.size ∧ s.size ≤ 16 := by
  unfold isN at h
  rw [Bool.and_eq_true] at h
  exact of_decide_eq_true h.1
theorem isN_all {s : ByteArray} (h1 : 1 ≤ s.size) (h2 : s.size ≤ 16) (h : ∀ j, j < s.size → letterB (Gf.nth (bytesOf s) j) = true) : isN s = true := by
  unfold isN
  rw [decide_eq_true ⟨h1, h2⟩, Bool.true_and, List.all_eq_true]
  intro x hx
  obtain ⟨j, hj, rfl⟩ := List.getElem_of_mem hx
  rw [← Gf.nth_getElem _ j hj]
  exact h j (by rw [bytesOf_length] at hj; exact hj)
theorem isN_one {s : ByteArray} {j : Nat} (hj : j < s.size) (h : letterB (Gf.nth (bytesOf s) j) = false) : isN s = false := by
  unfold isN
  rw [Bool.and_eq_false_iff]
  refine Or.inr (List.all_eq_false.2 ⟨Gf.nth (bytesOf s) j, ?_, by rw [h]; decide⟩)
  have hj' : j < (bytesOf s).length := by rw [bytesOf_length]; exact hj
  rw [Gf.nth_getElem _ j hj']
  exact List.getElem_mem hj'
theorem isN_len {s : ByteArray} (h : ¬ (1 ≤ s.size ∧ s.size ≤ 16)) : isN s = false := by
  unfold isN
  rw [decide_eq_false h, Bool.false_and]
def inL (l : List ByteArray) (x : ByteArray) : Bool := l.any fun y => decide (y = x)
theorem inL_iff {l : List ByteArray} {x : ByteArray} : inL l x = true ↔ x ∈ l := by
  unfold inL
  rw [List.any_eq_true]
  exact ⟨fun ⟨y, hy, e⟩ => by rw [← of_decide_eq_true e]; exact hy, fun h => ⟨x, h, decide_eq_true rfl⟩⟩
/-- What is wrong with node i: it is no name (4), it was ahead (6), nothing (0). -/
def faultAt (l : List ByteArray) (i : Nat) : Nat := if isN (txt l i) then (if inL (l.take i) (txt l i) then 6 else 0) else 4
theorem faultAt_name {l : List ByteArray} {i : Nat} (h : isN (txt l i) = false) : faultAt l i = 4 := by
  unfold faultAt
  rw [h, if_neg (by decide)]
theorem faultAt_twice {l : List ByteArray} {i : Nat} (h : isN (txt l i) = true) (h2 : txt l i ∈ l.take i) : faultAt l i = 6 := by
  unfold faultAt
  rw [if_pos h, if_pos (inL_iff.2 h2)]
theorem faultAt_fine {l : List ByteArray} {i : Nat} (h : isN (txt l i) = true) (h2 : txt l i ∉ l.take i) : faultAt l i = 0 := by
  unfold faultAt
  rw [if_pos h, if_neg (fun h3 => h2 (inL_iff.1 h3))]
/-- The first fault of the m nodes from i on: its number, its place. -/
def scanF (l : List ByteArray) : Nat → Nat → Int × Int
  | _, 0 => (0, -1)
  | i, m + 1 => if faultAt l i = 0 then scanF l (i + 1) m else ((faultAt l i : Nat), (i : Nat))
/-- The fault of nodes. -/
def nodesF (l : List ByteArray) : Int × Int := if l.length < 1 ∨ 16 < l.length then (2, -1) else scanF l 0 l.length
theorem nodesF_bound {l : List ByteArray} (h : l.length < 1 ∨ 16 < l.length) : nodesF l = (2, -1) := if_pos h
theorem nodesF_scan {l : List ByteArray} (h1 : ¬ l.length < 1) (h2 : ¬ 16 < l.length) : nodesF l = scanF l 0 l.length := if_neg (by omega)
theorem scanF_fine {l : List ByteArray} : ∀ (m i : Nat), scanF l i m = (0, -1) → ∀ j, i ≤ j → j < i + m → faultAt l j = 0
  | 0, i, _, j, h1, h2 => by omega
  | m + 1, i, h, j, h1, h2 => by
    have h' : (if faultAt l i = 0 then scanF l (i + 1) m else (((faultAt l i : Nat) : Int), (i : Int))) = (0, -1) := h
    by_cases e : faultAt l i = 0
    · rw [if_pos e] at h'
      by_cases e2 : j = i
      · rw [e2]; exact e
      · exact scanF_fine m (i + 1) h' j (by omega) (by omega)
    · rw [if_neg e] at h'
      have h3 := congrArg Prod.fst h'
      have h4 : ((faultAt l i : Nat) : Int) = 0 := h3
      omega
/-- Where it is 0 it is nothing. -/
theorem scanF_zero {l : List ByteArray} : ∀ (m i : Nat), (scanF l i m).1 ≤ 0 → scanF l i m = (0, -1)
  | 0, _, _ => rfl
  | m + 1, i, h => by
    show (if faultAt l i = 0 then scanF l (i + 1) m else (((faultAt l i : Nat) : Int), (i : Int))) = (0, -1)
    have h' : (if faultAt l i = 0 then scanF l (i + 1) m else (((faultAt l i : Nat) : Int), (i : Int))).1 ≤ 0 := h
    by_cases e : faultAt l i = 0
    · rw [if_pos e] at h' ⊢
      exact scanF_zero m (i + 1) h'
    · rw [if_neg e] at h'
      have h4 : ((faultAt l i : Nat) : Int) ≤ 0 := h'
      omega
theorem nodesF_zero {l : List ByteArray} (h : (nodesF l).1 ≤ 0) : nodesF l = (0, -1) ∧ 1 ≤ l.length ∧ l.length ≤ 16 := by
  by_cases hb : l.length < 1 ∨ 16 < l.length
  · rw [nodesF_bound hb] at h
    exact absurd h (by decide)
  · have h1 : nodesF l = scanF l 0 l.length := if_neg hb
    rw [h1] at h ⊢
    exact ⟨scanF_zero _ _ h, by omega, by omega⟩
/-- Nodes without a fault: names, each once. -/
theorem nodesF_fine {l : List ByteArray} (h : (nodesF l).1 ≤ 0) : (∀ x ∈ l, isN x = true) ∧ l.Nodup := by
  obtain ⟨h0, h1, h2⟩ := nodesF_zero h
  rw [nodesF_scan (by omega) (by omega)] at h0
  have hf := scanF_fine l.length 0 h0
  have key : ∀ j, j < l.length → isN (txt l j) = true ∧ txt l j ∉ l.take j := fun j hj => by
    have := hf j (Nat.zero_le _) (by omega)
    unfold faultAt at this
    by_cases e : isN (txt l j) = true
    · rw [if_pos e] at this
      refine ⟨e, fun h3 => ?_⟩
      rw [if_pos (inL_iff.2 h3)] at this
      omega
    · rw [if_neg e] at this
      omega
  refine ⟨fun x hx => ?_, ?_⟩
  · obtain ⟨j, hj, rfl⟩ := txt_of_mem hx
    exact (key j hj).1
  · rw [List.nodup_iff_pairwise_ne, List.pairwise_iff_getElem]
    intro i j hi hj hij e
    refine (key j hj).2 ?_
    rw [txt_getElem l j hj, ← e, List.mem_take_iff_getElem]
    exact ⟨i, by omega, rfl⟩
/-- The fault of nodes, and how many. -/
def preferF (l : List ByteArray) (n : Int) : Int × Int := if 0 < (nodesF l).1 then nodesF l else if (l.length : Int) < n then (8, -1) else if n < 0 then (2, -1) else nodesF l
theorem preferF_fine {l : List ByteArray} {n : Int} (h : ¬ 0 < (preferF l n).1) : (nodesF l).1 ≤ 0 ∧ 0 ≤ n ∧ n ≤ l.length ∧ preferF l n = (0, -1) := by
  unfold preferF at h ⊢
  by_cases h1 : 0 < (nodesF l).1
  · rw [if_pos h1] at h; exact absurd h1 h
  rw [if_neg h1] at h ⊢
  by_cases h2 : (l.length : Int) < n
  · rw [if_pos h2] at h; exact absurd (by decide) h
  rw [if_neg h2] at h ⊢
  by_cases h3 : n < 0
  · rw [if_pos h3] at h; exact absurd (by decide) h
  rw [if_neg h3] at h ⊢
  exact ⟨by omega, by omega, by omega, (nodesF_zero (by omega)).1⟩
/-- Too long to be asked. -/
def longL (l : List ByteArray) : Bool := decide (40 < l.length) || l.any fun x => decide (100 < x.size)
theorem longL_fine {l : List ByteArray} (h : longL l = false) : l.length ≤ 40 ∧ ∀ x ∈ l, x.size ≤ 100 := by
  unfold longL at h
  rw [Bool.or_eq_false_iff] at h
  refine ⟨by have := of_decide_eq_false h.1; omega, fun x hx => ?_⟩
  have := List.any_eq_false.1 h.2 x hx
  have h2 : ¬ 100 < x.size := fun h3 => this (decide_eq_true h3)
  omega
theorem scanF_of {l : List ByteArray} : ∀ (m i : Nat), (∀ j, i ≤ j → j < i + m → faultAt l j = 0) → scanF l i m = (0, -1)
  | 0, _, _ => rfl
  | m + 1, i, h => by
    show (if faultAt l i = 0 then scanF l (i + 1) m else (((faultAt l i : Nat) : Int), (i : Int))) = (0, -1)
    rw [if_pos (h i (Nat.le_refl _) (by omega))]
    exact scanF_of m (i + 1) (fun j h1 h2 => h j (by omega) (by omega))
/-- Names, each once, from 1 to 16: no fault. -/
theorem nodesF_of {l : List ByteArray} (h1 : 1 ≤ l.length) (h2 : l.length ≤ 16) (h3 : ∀ x ∈ l, isN x = true) (h4 : l.Nodup) : nodesF l = (0, -1) := by
  rw [nodesF_scan (by omega) (by omega)]
  refine scanF_of _ _ fun j _ hj => faultAt_fine (h3 _ (txt_mem (by omega))) fun hm => ?_
  obtain ⟨i, hi, e⟩ := List.mem_take_iff_getElem.1 hm
  have hjl : j < l.length := by omega
  rw [txt_getElem l j hjl] at e
  have := (List.nodup_iff_pairwise_ne.1 h4)
  rw [List.pairwise_iff_getElem] at this
  exact this i j (by omega) hjl (by omega) e
theorem preferF_of {l : List ByteArray} {n : Int} (h : nodesF l = (0, -1)) (h1 : 0 ≤ n) (h2 : n ≤ l.length) : preferF l n = (0, -1) := by
  unfold preferF
  rw [h, if_neg (by decide), if_neg (by omega), if_neg (by omega)]
end Go.Proofs.YtgjehnahkbddgaaDoor
