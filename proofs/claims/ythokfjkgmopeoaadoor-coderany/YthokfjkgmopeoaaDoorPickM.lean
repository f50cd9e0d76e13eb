/- Shards that are all unlike: the first k of them are taken; any k tell the object; one that is wrong among more than k is seen. -/
import Derived.Test.YthokfjkgmopeoaaDoorAgrW
namespace Go.Proofs.YthokfjkgmopeoaaDoor
open Go.RowKit
theorem shAt_get {l : List (Int × ByteArray)} {i : Nat} (h : i < l.length) : shAt l i = l[i] := by
  unfold shAt
  rw [List.getD_eq_getElem?_getD, List.getElem?_eq_getElem h]
  rfl
theorem pickN_take {k : Nat} {l : List (Int × ByteArray)} (hn : (l.map Prod.fst).Nodup) : ∀ i, i ≤ l.length → pickN k l i = (l.take i).take k
  | 0, _ => by simp [pickN]
  | i + 1, hi => by
    have ih := pickN_take (k := k) hn i (by omega)
    have hlen : ((l.take i).take k).length = min k i := by rw [List.length_take, List.length_take]; omega
    by_cases h : i < k
    · have hti : (l.take i).take k = l.take i := List.take_of_length_le (by rw [List.length_take]; omega)
      rw [hti] at ih
      have hany : (pickN k l i).any (fun y => y.1 == (shAt l i).1) = false := by
        rw [ih, List.any_eq_false]
        intro y hy he
        have he' : y.1 = (shAt l i).1 := by simpa using he
        obtain ⟨j, hj, rfl⟩ := List.getElem_of_mem hy
        rw [List.length_take] at hj
        rw [List.getElem_take] at he'
        rw [shAt_get (by omega)] at he'
        have h1 : (l.map Prod.fst)[j]'(by rw [List.length_map]; omega) = (l.map Prod.fst)[i]'(by rw [List.length_map]; omega) := by rw [List.getElem_map, List.getElem_map]; exact he'
        exact (List.pairwise_iff_getElem.1 hn) j i (by rw [List.length_map]; omega) (by rw [List.length_map]; omega) (by omega) h1
      rw [pickN_yes (by rw [ih, List.length_take]; omega) hany, ih, shAt_get (by omega), List.take_of_length_le (l := l.take (i + 1)) (by rw [List.length_take]; omega), List.take_succ_eq_append_getElem (by omega)]
    · rw [pickN_full (by rw [ih, hlen]; omega), ih, List.take_take, List.take_take]
      congr 1
      omega
theorem pickN_unlike {k : Nat} {l : List (Int × ByteArray)} (hn : (l.map Prod.fst).Nodup) : pickN k l l.length = l.take k := by
  rw [pickN_take hn l.length (Nat.le_refl _), List.take_length]
/-- n shards by the index, each at its own place. -/
def rangeL (n : Nat) (f : Nat → ByteArray) : List (Int × ByteArray) := (List.range n).map fun i : Nat => ((i : Int), f i)
theorem rangeL_length (n : Nat) (f : Nat → ByteArray) : (rangeL n f).length = n := by simp [rangeL]
theorem rangeL_at {n : Nat} {f : Nat → ByteArray} {i : Nat} (h : i < n) : shAt (rangeL n f) i = ((i : Int), f i) := by
  unfold shAt rangeL
  rw [List.getD_eq_getElem?_getD, List.getElem?_map, List.getElem?_range h]
  rfl
theorem rangeL_nodup (n : Nat) (f : Nat → ByteArray) : ((rangeL n f).map Prod.fst).Nodup := by
  unfold rangeL
  rw [List.map_map]
  exact List.Pairwise.map (R := fun a b : Nat => a ≠ b) _ (fun a b hab e => hab (by have : (a : Int) = (b : Int) := e; omega)) List.nodup_range
theorem rangeL_fits {n k : Nat} {f : Nat → ByteArray} {size : Nat} (hkn : k ≤ n) (hf : ∀ i, i < n → (f i).size = wideN k size) : Fits n k size (rangeL n f) where
  good := by
    rw [List.any_eq_false]
    intro x hx
    obtain ⟨i, hi, rfl⟩ := List.mem_map.1 hx
    have hi' := List.mem_range.1 hi
    unfold badB
    simp only [Bool.or_eq_true, decide_eq_true_eq, Bool.not_eq_true', decide_eq_false_iff_not]
    have := hf i hi'
    omega
  enough := by
    rw [pickN_unlike (rangeL_nodup n f), List.length_take, rangeL_length]
    omega
theorem encL_range (n k : Nat) (s : ByteArray) : encL n k s = rangeL n (encT k s) := rfl
theorem skip_nodup (a k : Nat) : ((List.range k).map (Lin.skip a)).Nodup := List.Pairwise.map (R := fun a b : Nat => a ≠ b) _ (fun x y hxy e => hxy (by unfold Lin.skip at e; split at e <;> split at e <;> omega)) List.nodup_range
/-- Singleton: one shard that is wrong among more than k. -/
theorem wrong_seen {n k a : Nat} {s s' u : ByteArray} (hk : k ≤ 200) (hkn : k < n) (han : a < n) (hs : s'.size = s.size) (hu : u ≠ encT k s a) : (rangeL n fun i => if i = a then u else encT k s i).any (neB k s') = true := by
  refine Classical.byContradiction fun hno => hu ?_
  have hall := List.any_eq_false.1 (Bool.eq_false_iff.2 hno)
  have hat : ∀ i, i < n → (if i = a then u else encT k s i) = encT k s' i := fun i hi => by
    have := hall ((i : Int), if i = a then u else encT k s i) (List.mem_map.2 ⟨i, List.mem_range.2 hi, rfl⟩)
    unfold neB at this
    simpa using this
  have hsame : ∀ c, c < wideN k s.size → ∀ m, m < k → objN s (wideN k s.size) m c = objN s' (wideN k s.size) m c := fun c hc m hm => by
    have hX : ∀ i, i < k → Gf.nth ((List.range k).map (Lin.skip a)) i = Lin.skip a i := fun i hi => by
      rw [Gf.nth_getElem _ i (by simpa using hi)]
      simp
    refine told_same (X := (List.range k).map (Lin.skip a)) (fun i => ?_) (skip_nodup a k) (by simp) (by omega) (fun j c => objN_lt s _ j c) (fun j c => objN_lt s' _ j c) c (fun i hi => ?_) m hm
    · by_cases hi : i < k
      · rw [hX i hi]
        have := Lin.skip_lt (p := a) hi
        omega
      · rw [nth_past (by simpa using hi)]; decide
    · rw [hX i hi]
      have hne := Lin.skip_ne a i
      have hlt := Lin.skip_lt (p := a) hi
      have h1 := hat (Lin.skip a i) (by omega)
      rw [if_neg hne] at h1
      have h2 := encT_nth k s (Lin.skip a i) c hc
      have h3 := encT_nth k s' (Lin.skip a i) c (by rw [hs]; exact hc)
      rw [hs] at h3
      rw [← h2, ← h3, h1]
  have h1 := hat a han
  rw [if_pos rfl] at h1
  rw [h1]
  unfold encT
  rw [hs]
  congr 1
  refine rowFn_congr _ _ _ (fun c hc => ?_)
  exact rsumN_vals k (fun j hj => (hsame c hc j hj).symm)
/-- Reed and Solomon: any k of an object's shards tell it. -/
theorem told_object {n k : Nat} {s : ByteArray} {so : List (Int × ByteArray)} (hk1 : 1 ≤ k) (hn : n ≤ 200) (hlen : so.length = k) (hnd : (atsN so).Nodup) (hat : ∀ i, i < k → (shAt so i).1.toNat < n ∧ (shAt so i).2 = encT k s (shAt so i).1.toNat) (hkn : k ≤ n) : decT k s.size so = s := by
  have hXl : (atsN so).length = k := by unfold atsN; rw [List.length_map]; exact hlen
  have hb : bytesOf (decT k s.size so) = bytesOf s := by
    rw [decT_bytes]
    refine nth_ext (by rw [rowFn_length, bytesOf_length]) fun p hp => ?_
    rw [rowFn_length] at hp
    rw [nth_rowFn _ _ p hp]
    have hm := wide_mul (size := s.size) hk1
    have hw0 : 0 < wideN k s.size := by
      rcases Nat.eq_zero_or_pos (wideN k s.size) with e | e
      · rw [e, Nat.mul_zero] at hm; omega
      · exact e
    have hq : p / wideN k s.size < k := by rw [Nat.div_lt_iff_lt_mul hw0]; omega
    have hr := Nat.mod_lt p hw0
    rw [told (X := atsN so) (u := objN s (wideN k s.size)) (fun j => ?_) hnd hXl (by omega) (fun j c => objN_lt s _ j c) (fun j c => txtN_lt so j c) _ (fun i hi => ?_) _ hq]
    · unfold objN
      congr 1
      have := Nat.mod_add_div p (wideN k s.size)
      rw [Nat.mul_comm (wideN k s.size)] at this
      omega
    · by_cases hj : j < k
      · rw [nth_ats (by rw [hlen]; exact hj)]
        have := (hat j hj).1
        omega
      · rw [nth_past (by omega)]; decide
    · rw [nth_ats (by rw [hlen]; exact hi)]
      unfold txtN
      rw [(hat i hi).2]
      exact encT_nth k s _ _ hr
  rw [← strOf_bytesOf (decT k s.size so), hb, strOf_bytesOf]
end Go.Proofs.YthokfjkgmopeoaaDoor
