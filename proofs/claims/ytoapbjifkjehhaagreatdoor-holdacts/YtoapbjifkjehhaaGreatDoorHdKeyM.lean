/- Keys that come in any order, sorted, are the keys of what is kept. -/
import Derived.Test.YtoapbjifkjehhaaGreatDoorHdCntW
namespace Go.Proofs.YtoapbjifkjehhaaGreatDoor
open Go.RowKit
theorem bless_lt : ∀ (x y : List UInt8), Op.bytesLess x y = true → x < y
  | _, [], h => by simp [Op.bytesLess] at h
  | [], _ :: _, _ => List.nil_lt_cons _ _
  | a :: x, b :: y, h => by
    simp only [Op.bytesLess, Bool.or_eq_true, decide_eq_true_eq, Bool.and_eq_true, beq_iff_eq] at h
    rw [List.cons_lt_cons_iff]
    rcases h with h | ⟨e, h⟩
    · exact Or.inl h
    · exact Or.inr ⟨e, bless_lt x y h⟩
theorem filter_strike {K : List ByteArray} (hn : K.Nodup) (p : ByteArray → Bool) {x : ByteArray} (hx : x ∈ K) (hp : p x = true) : (x :: K.filter fun z => p z && !decide (z = x)).Perm (K.filter p) := by
  induction K with
  | nil => cases hx
  | cons a K ih =>
    obtain ⟨h1, h2⟩ := List.nodup_cons.1 hn
    by_cases e : a = x
    · subst e
      have hK : K.filter (fun z => p z && !decide (z = a)) = K.filter p := by
        apply List.filter_congr
        intro z hz
        have : z ≠ a := fun e => h1 (e ▸ hz)
        simp [this]
      rw [List.filter_cons_of_pos hp, List.filter_cons_of_neg (by simp), hK]
    · have hxK : x ∈ K := by
        rcases List.mem_cons.1 hx with h3 | h3
        · exact absurd h3.symm e
        · exact h3
      have := ih h2 hxK
      cases hpa : p a with
      | true =>
        rw [List.filter_cons_of_pos hpa, List.filter_cons_of_pos (by simp [hpa, e])]
        exact (List.Perm.swap _ _ _).trans (this.cons _)
      | false =>
        rw [List.filter_cons_of_neg (by simp [hpa]), List.filter_cons_of_neg (by simp [hpa])]
        exact this
/-- Keys that have come, and those that are left. -/
def KeysLeft (L : List Kep) (left : Lit → Bool) (acc : List ByteArray) : Prop := (acc ++ (keysL L).filter fun x => left (litK x)).Perm (keysL L)
theorem keysLeft_start {L : List Kep} {left : Lit → Bool} (hl : ∀ x ∈ keysL L, left (litK x) = true) : KeysLeft L left [] := by
  unfold KeysLeft
  rw [List.nil_append, List.filter_eq_self.2 hl]
theorem keysLeft_step {L : List Kep} (hs : SortedK L) {left : Lit → Bool} {acc : List ByteArray} {x : ByteArray} (hx : x ∈ keysL L) (hl : left (litK x) = true) (h : KeysLeft L left acc) : KeysLeft L (fun z => left z && !z.sameKey (litK x)) (acc ++ [x]) := by
  unfold KeysLeft at *
  simp only [sameKey_decide]
  rw [List.append_assoc]
  exact (List.Perm.append_left acc (filter_strike (keysL_nodup hs) (fun x => left (litK x)) hx hl)).trans h
theorem keysLeft_end {L : List Kep} {left : Lit → Bool} {acc : List ByteArray} (hl : ∀ k, left k = false) (h : KeysLeft L left acc) : acc.Perm (keysL L) := by
  unfold KeysLeft at h
  rw [List.filter_eq_nil_iff.2 (fun x _ => by rw [hl]; decide), List.append_nil] at h
  exact h
/-- What is sorted of the keys is the keys. -/
theorem sort_keys {L : List Kep} (hs : SortedK L) {acc : List ByteArray} (hp : acc.Perm (keysL L)) : (acc.map fun x => x.data.toList).mergeSort (fun x y => decide (x ≤ y)) = (keysL L).map fun x => x.data.toList := by
  have h1 : ((acc.map fun x => x.data.toList).mergeSort fun x y => decide (x ≤ y)).Perm ((keysL L).map fun x => x.data.toList) := (List.mergeSort_perm _ _).trans (hp.map _)
  have hk : ((keysL L).map fun x => x.data.toList).Pairwise fun x y => decide (x ≤ y) = true := by
    rw [List.pairwise_map]
    refine (keysOk L hs).rising.imp ?_
    intro a b hab
    unfold kl at hab
    rw [ByteArray.toList_eq, ByteArray.toList_eq] at hab
    have h3 : a.data.toList < b.data.toList := bless_lt _ _ hab
    exact decide_eq_true (List.le_of_lt h3)
  have h2 : ((acc.map fun x => x.data.toList).mergeSort fun x y => decide (x ≤ y)).Pairwise fun x y => decide (x ≤ y) = true := List.pairwise_mergeSort (fun a b c h3 h4 => by simp only [decide_eq_true_eq] at *; exact List.le_trans h3 h4) (fun a b => by simp only [Bool.or_eq_true, decide_eq_true_eq]; exact List.le_total a b) _
  exact h1.eq_of_pairwise (fun a b _ _ h3 h4 => by simp only [decide_eq_true_eq] at *; exact List.le_antisymm h3 h4) h2 hk
end Go.Proofs.YtoapbjifkjehhaaGreatDoor
