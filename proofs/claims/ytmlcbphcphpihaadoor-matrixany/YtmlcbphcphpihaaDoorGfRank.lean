/- The document's rank, row by row, on lists of bytes: it is the rank. -/
import Derived.Test.YtmlcbphcphpihaaDoorGfLin
import Derived.Test.YtmlcbphcphpihaaDoorGfPoly
namespace Go.Proofs.YtmlcbphcphpihaaDoor
/-- The bytes f 0, .., f (n - 1). -/
def rowFn (n : Nat) (f : Nat → Nat) : List Nat := (List.range n).map f
theorem rowFn_length (n : Nat) (f : Nat → Nat) : (rowFn n f).length = n := by simp [rowFn]
theorem nth_rowFn (n : Nat) (f : Nat → Nat) (j : Nat) (h : j < n) : Gf.nth (rowFn n f) j = f j := by
  rw [Gf.nth_getElem _ _ (by rw [rowFn_length]; exact h)]; simp [rowFn]
theorem rowFn_bytes (n : Nat) (f : Nat → Nat) (h : ∀ j, f j < 256) : Gf.Bytes (rowFn n f) := fun i => by
  by_cases hi : i < n
  · rw [nth_rowFn n f i hi]; exact h i
  · unfold Gf.nth; rw [List.getD_eq_getElem?_getD, List.getElem?_eq_none (by rw [rowFn_length]; omega)]; decide
theorem rowFn_congr (n : Nat) (f g : Nat → Nat) (h : ∀ j, j < n → f j = g j) : rowFn n f = rowFn n g := by
  unfold rowFn
  exact List.map_congr_left fun j hj => h j (List.mem_range.1 hj)
theorem rowFn_set (n : Nat) (f : Nat → Nat) (j v : Nat) : (rowFn n f).set j v = rowFn n (fun i => if i = j then v else f i) := by
  apply List.ext_getElem
  · simp [rowFn]
  · intro i h1 h2
    rw [List.getElem_set]
    simp only [rowFn, List.getElem_map, List.getElem_range]
    by_cases e : j = i
    · rw [if_pos e, if_pos e.symm]
    · rw [if_neg e, if_neg (fun e' => e e'.symm)]
theorem rowFn_nth (l : List Nat) (n : Nat) (h : l.length = n) : rowFn n (Gf.nth l) = l := by
  subst h
  apply List.ext_getElem
  · simp [rowFn]
  · intro i h1 h2
    simp only [rowFn, List.getElem_map, List.getElem_range]
    exact Gf.nth_getElem l i h2
/-- Row i of a list of rows (none behind its end). -/
def rowOf (M : List (List Nat)) (i : Nat) : List Nat := M.getD i []
theorem rowOf_append_lt (M : List (List Nat)) (r : List Nat) (i : Nat) (h : i < M.length) : rowOf (M ++ [r]) i = rowOf M i := by
  unfold rowOf; rw [List.getD_eq_getElem?_getD, List.getD_eq_getElem?_getD, List.getElem?_append_left h]
theorem rowOf_append_eq (M : List (List Nat)) (r : List Nat) : rowOf (M ++ [r]) M.length = r := by
  unfold rowOf; rw [List.getD_eq_getElem?_getD, List.getElem?_append_right (Nat.le_refl _)]; simp
/-- The first place that is not 0 (the length: none). -/
def leadIdx : List Nat → Nat
  | [] => 0
  | c :: r => if c = 0 then leadIdx r + 1 else 0
theorem leadIdx_le : ∀ l, leadIdx l ≤ l.length
  | [] => Nat.le_refl _
  | c :: r => by
    unfold leadIdx
    split
    · have := leadIdx_le r; simp; omega
    · simp
theorem leadIdx_zero : ∀ (l : List Nat) (i : Nat), i < leadIdx l → Gf.nth l i = 0
  | [], i, h => absurd h (Nat.not_lt_zero _)
  | c :: r, i, h => by
    unfold leadIdx at h
    by_cases e : c = 0
    · rw [if_pos e] at h
      cases i with
      | zero => simpa [Gf.nth] using e
      | succ i =>
        have := leadIdx_zero r i (by omega)
        simpa [Gf.nth] using this
    · rw [if_neg e] at h; exact absurd h (Nat.not_lt_zero _)
theorem leadIdx_ne : ∀ l : List Nat, leadIdx l < l.length → Gf.nth l (leadIdx l) ≠ 0
  | [], h => absurd h (Nat.lt_irrefl _)
  | c :: r, h => by
    unfold leadIdx at h ⊢
    by_cases e : c = 0
    · rw [if_pos e] at h ⊢
      have := leadIdx_ne r (by simpa using h)
      simpa [Gf.nth] using this
    · rw [if_neg e]; simpa [Gf.nth] using e
/-- A row less its part of kr. -/
def redStep (n : Nat) (row kr : List Nat) : List Nat := rowFn n fun j => Gf.nth row j ^^^ Gf.mul (Gf.mul (Gf.nth row (leadIdx kr)) (Gf.inv (Gf.nth kr (leadIdx kr)))) (Gf.nth kr j)
def redTo (n : Nat) (row : List Nat) (K : List (List Nat)) : Nat → List Nat
  | 0 => row
  | k + 1 => redStep n (redTo n row K k) (rowOf K k)
/-- The rows that do not come from those ahead. -/
def keptOf (n : Nat) (M : List (List Nat)) : Nat → List (List Nat)
  | 0 => []
  | i + 1 => if leadIdx (redTo n (rowOf M i) (keptOf n M i) (keptOf n M i).length) < n then keptOf n M i ++ [redTo n (rowOf M i) (keptOf n M i) (keptOf n M i).length] else keptOf n M i
theorem redTo_length (n : Nat) (row : List Nat) (K : List (List Nat)) (h : row.length = n) : ∀ k, (redTo n row K k).length = n
  | 0 => h
  | _ + 1 => rowFn_length _ _
theorem redStep_bytes (n : Nat) (row kr : List Nat) (h : Gf.Bytes row) : Gf.Bytes (redStep n row kr) := rowFn_bytes _ _ fun j => Gf.xlt (h j) (Gf.mul_lt (Gf.mul_lt (h _) _) _)
theorem redTo_bytes (n : Nat) (row : List Nat) (K : List (List Nat)) (h : Gf.Bytes row) : ∀ k, Gf.Bytes (redTo n row K k)
  | 0 => h
  | k + 1 => redStep_bytes _ _ _ (redTo_bytes n row K h k)
theorem keptOf_rows (n : Nat) (M : List (List Nat)) (hM : ∀ i, Gf.Bytes (rowOf M i)) (hl : ∀ i, i < M.length → (rowOf M i).length = n) : ∀ i, i ≤ M.length → ∀ k, k < (keptOf n M i).length → (rowOf (keptOf n M i) k).length = n ∧ Gf.Bytes (rowOf (keptOf n M i) k) ∧ leadIdx (rowOf (keptOf n M i) k) < n
  | 0, _, k, hk => absurd hk (Nat.not_lt_zero _)
  | i + 1, hi, k, hk => by
    have ih := keptOf_rows n M hM hl i (by omega)
    unfold keptOf at hk ⊢
    split
    · rename_i hlt
      rw [if_pos hlt] at hk
      by_cases e : k < (keptOf n M i).length
      · rw [rowOf_append_lt _ _ _ e]; exact ih k e
      · obtain rfl : k = (keptOf n M i).length := by simp at hk; omega
        rw [rowOf_append_eq]
        exact ⟨redTo_length n _ _ (hl i (by omega)) _, redTo_bytes n _ _ (hM i) _, hlt⟩
    · rename_i hlt
      rw [if_neg hlt] at hk
      exact ih k hk
theorem keptOf_length (n : Nat) (M : List (List Nat)) : ∀ i, (keptOf n M i).length ≤ i
  | 0 => Nat.le_refl _
  | i + 1 => by
    have := keptOf_length n M i
    unfold keptOf
    split
    · simp; omega
    · omega
/-- Rows as vectors. -/
def toF (x : Nat) : Lin.F := ⟨x % 256, Nat.mod_lt _ (by decide)⟩
theorem toF_val {x : Nat} (h : x < 256) : (toF x).1 = x := Nat.mod_eq_of_lt h
theorem toF_zero {x : Nat} (h : x < 256) : toF x = 0 ↔ x = 0 := by
  constructor
  · intro e
    have := congrArg Fin.val e
    rw [toF_val h] at this
    exact this
  · rintro rfl; rfl
theorem toF_ad {x y : Nat} (hx : x < 256) (hy : y < 256) : toF (x ^^^ y) = Lin.ad (toF x) (toF y) := by
  apply Fin.ext
  rw [toF_val (Gf.xlt hx hy)]
  show _ = (toF x).1 ^^^ (toF y).1
  rw [toF_val hx, toF_val hy]
theorem toF_mu {x y : Nat} (hx : x < 256) (hy : y < 256) : toF (Gf.mul x y) = Lin.mu (toF x) (toF y) := by
  apply Fin.ext
  rw [toF_val (Gf.mul_lt hx y)]
  show _ = Gf.mul (toF x).1 (toF y).1
  rw [toF_val hx, toF_val hy]
def vec (M : List (List Nat)) : Nat → Nat → Lin.F := fun i j => toF (Gf.nth (rowOf M i) j)
def vecOf (l : List Nat) : Nat → Lin.F := fun j => toF (Gf.nth l j)
/-- What is left of a row comes from it and from kr; and the row from what is left and from kr. -/
theorem redStep_vec (n : Nat) (row kr : List Nat) (hr : Gf.Bytes row) (hk : Gf.Bytes kr) (j : Nat) (hj : j < n) :
    vecOf (redStep n row kr) j = Lin.ad (vecOf row j) (Lin.mu (toF (Gf.mul (Gf.nth row (leadIdx kr)) (Gf.inv (Gf.nth kr (leadIdx kr))))) (vecOf kr j)) := by
  have hc := Gf.mul_lt (hr (leadIdx kr)) (Gf.inv (Gf.nth kr (leadIdx kr)))
  unfold vecOf redStep
  rw [nth_rowFn n _ j hj, toF_ad (hr j) (Gf.mul_lt hc _), toF_mu hc (hk j)]
/-- Behind the step the row is 0 where kr leads. -/
theorem redStep_lead (n : Nat) (row kr : List Nat) (hr : Gf.Bytes row) (hk : Gf.Bytes kr) (hlen : kr.length = n) (hl : leadIdx kr < n) : Gf.nth (redStep n row kr) (leadIdx kr) = 0 := by
  unfold redStep
  rw [nth_rowFn n _ _ hl]
  have hne := leadIdx_ne kr (by rw [hlen]; exact hl)
  rw [Gf.mul_assoc _ _ _ (hr _) (Gf.inv_lt _), Gf.inv_mul _ (hk _) hne, Gf.mul_one, Nat.xor_self]
/-- A place where kr is 0 stays. -/
theorem redStep_keep (n : Nat) (row kr : List Nat) (j : Nat) (hj : j < n) (hz : Gf.nth kr j = 0) : Gf.nth (redStep n row kr) j = Gf.nth row j := by
  unfold redStep
  rw [nth_rowFn n _ j hj, hz, Gf.mul_zero, Nat.xor_zero]
/-- The kept rows: each is 0 where one ahead of it leads. -/
def Stair (n : Nat) (K : List (List Nat)) : Prop := (∀ k, k < K.length → (rowOf K k).length = n ∧ Gf.Bytes (rowOf K k) ∧ leadIdx (rowOf K k) < n) ∧ ∀ a b, a < b → b < K.length → Gf.nth (rowOf K b) (leadIdx (rowOf K a)) = 0
theorem redTo_zero (n : Nat) (row : List Nat) (K : List (List Nat)) (hr : Gf.Bytes row) (hK : Stair n K) : ∀ k, k ≤ K.length → ∀ a, a < k → Gf.nth (redTo n row K k) (leadIdx (rowOf K a)) = 0
  | 0, _, a, ha => absurd ha (Nat.not_lt_zero _)
  | k + 1, hk, a, ha => by
    have hk' := hK.1 k (by omega)
    show Gf.nth (redStep n (redTo n row K k) (rowOf K k)) (leadIdx (rowOf K a)) = 0
    by_cases e : a = k
    · subst e
      exact redStep_lead n _ _ (redTo_bytes n row K hr a) hk'.2.1 hk'.1 hk'.2.2
    · rw [redStep_keep n _ _ _ (hK.1 a (by omega)).2.2 (hK.2 a k (by omega) (by omega))]
      exact redTo_zero n row K hr hK k (by omega) a (by omega)
theorem keptOf_stair (n : Nat) (M : List (List Nat)) (hM : ∀ i, Gf.Bytes (rowOf M i)) (hl : ∀ i, i < M.length → (rowOf M i).length = n) : ∀ i, i ≤ M.length → Stair n (keptOf n M i)
  | 0, _ => ⟨fun k hk => absurd hk (Nat.not_lt_zero _), fun a b _ hb => absurd hb (Nat.not_lt_zero _)⟩
  | i + 1, hi => by
    have ih := keptOf_stair n M hM hl i (by omega)
    refine ⟨keptOf_rows n M hM hl (i + 1) hi, fun a b hab hb => ?_⟩
    unfold keptOf at hb ⊢
    split
    · rename_i hlt
      rw [if_pos hlt] at hb
      rw [List.length_append, List.length_singleton] at hb
      rw [rowOf_append_lt _ _ a (by omega)]
      by_cases e : b < (keptOf n M i).length
      · rw [rowOf_append_lt _ _ b e]; exact ih.2 a b hab e
      · obtain rfl : b = (keptOf n M i).length := by omega
        rw [rowOf_append_eq]
        exact redTo_zero n _ _ (hM i) ih _ (Nat.le_refl _) a hab
    · rename_i hlt
      rw [if_neg hlt] at hb
      exact ih.2 a b hab hb
theorem stair_indep {n : Nat} {K : List (List Nat)} (h : Stair n K) : Lin.Indep n K.length (vec K) :=
  Lin.indep_of_leads (fun i => leadIdx (rowOf K i)) (fun i hi => (h.1 i hi).2.2) (fun i hi => by
    have h1 := h.1 i hi
    intro e
    exact leadIdx_ne _ (by rw [h1.1]; exact h1.2.2) ((toF_zero (h1.2.1 _)).1 e)) (fun i j hij hj => by
    show toF _ = 0
    rw [h.2 i j hij hj]
    rfl)
/-- What is left comes from the row and the kept ones; the row from what is left and the kept ones. -/
theorem redTo_spans (n : Nat) (row : List Nat) (K : List (List Nat)) (hr : Gf.Bytes row) (hK : ∀ k, k < K.length → Gf.Bytes (rowOf K k)) : ∀ k, k ≤ K.length → ∃ c : Nat → Lin.F, ∀ j, j < n → vecOf (redTo n row K k) j = Lin.ad (vecOf row j) (Lin.fsum k (fun i => Lin.mu (c i) (vec K i j)))
  | 0, _ => ⟨fun _ => 0, fun j _ => by show vecOf row j = Lin.ad _ 0; rw [Lin.ad_zero]⟩
  | k + 1, hk => by
    obtain ⟨c, hc⟩ := redTo_spans n row K hr hK k (by omega)
    let x : Lin.F := toF (Gf.mul (Gf.nth (redTo n row K k) (leadIdx (rowOf K k))) (Gf.inv (Gf.nth (rowOf K k) (leadIdx (rowOf K k)))))
    refine ⟨fun i => if i = k then x else c i, fun j hj => ?_⟩
    show vecOf (redStep n (redTo n row K k) (rowOf K k)) j = _
    rw [redStep_vec n _ _ (redTo_bytes n row K hr k) (hK k (by omega)) j hj, hc j hj, Lin.ad_assoc]
    congr 1
    show Lin.ad (Lin.fsum k _) (Lin.mu x (vec K k j)) = Lin.ad (Lin.fsum k _) (Lin.mu (if k = k then x else c k) (vec K k j))
    rw [if_pos rfl]
    congr 1
    exact Lin.fsum_congr fun i hi => by show Lin.mu (c i) _ = Lin.mu (if i = k then x else c i) _; rw [if_neg (by omega)]
theorem vec_append_lt (K : List (List Nat)) (r : List Nat) (i : Nat) (h : i < K.length) : vec (K ++ [r]) i = vec K i := by
  funext j; unfold vec; rw [rowOf_append_lt K r i h]
theorem vec_append_eq (K : List (List Nat)) (r : List Nat) : vec (K ++ [r]) K.length = vecOf r := by
  funext j; unfold vec vecOf; rw [rowOf_append_eq]
/-- The kept rows of the first i: a basis of what comes from the first i. -/
theorem keptOf_basis (n : Nat) (M : List (List Nat)) (hM : ∀ i, Gf.Bytes (rowOf M i)) (hl : ∀ i, i < M.length → (rowOf M i).length = n) : ∀ i, i ≤ M.length → (∀ k, k < (keptOf n M i).length → Lin.InSpan n i (vec M) (vec (keptOf n M i) k)) ∧ ∀ k, k < i → Lin.InSpan n (keptOf n M i).length (vec (keptOf n M i)) (vec M k)
  | 0, _ => ⟨fun k hk => absurd hk (Nat.not_lt_zero _), fun k hk => absurd hk (Nat.not_lt_zero _)⟩
  | i + 1, hi => by
    obtain ⟨ih1, ih2⟩ := keptOf_basis n M hM hl i (by omega)
    have hst := keptOf_stair n M hM hl i (by omega)
    obtain ⟨c, hc⟩ := redTo_spans n (rowOf M i) (keptOf n M i) (hM i) (fun k hk => (hst.1 k hk).2.1) (keptOf n M i).length (Nat.le_refl _)
    have hrM : Lin.InSpan n (i + 1) (vec M) (vecOf (redTo n (rowOf M i) (keptOf n M i) (keptOf n M i).length)) := by
      have s1 : Lin.InSpan n (i + 1) (vec M) (vec M i) := Lin.span_self (vec M) (by omega)
      have s2 : Lin.InSpan n (i + 1) (vec M) (fun j => Lin.fsum (keptOf n M i).length (fun l => Lin.mu (c l) (vec (keptOf n M i) l j))) :=
        Lin.span_trans (v := vec (keptOf n M i)) (k := (keptOf n M i).length) ⟨c, fun j _ => rfl⟩ fun l hl' => Lin.span_mono (ih1 l hl') (by omega)
      exact Lin.span_congr (Lin.span_ad s1 s2) (fun _ _ _ _ => rfl) fun j hj => (hc j hj).symm
    unfold keptOf
    split
    · rename_i hlt
      refine ⟨fun k hk => ?_, fun k hk => ?_⟩
      · rw [List.length_append, List.length_singleton] at hk
        by_cases e : k < (keptOf n M i).length
        · rw [vec_append_lt _ _ k e]; exact Lin.span_mono (ih1 k e) (by omega)
        · obtain rfl : k = (keptOf n M i).length := by omega
          rw [vec_append_eq]; exact hrM
      · rw [List.length_append, List.length_singleton]
        have up : ∀ u, Lin.InSpan n (keptOf n M i).length (vec (keptOf n M i)) u → Lin.InSpan n ((keptOf n M i).length + 1) (vec (keptOf n M i ++ [redTo n (rowOf M i) (keptOf n M i) (keptOf n M i).length])) u := fun u hu =>
          Lin.span_trans hu fun l hl' => by rw [← vec_append_lt (keptOf n M i) (redTo n (rowOf M i) (keptOf n M i) (keptOf n M i).length) l hl']; exact Lin.span_self _ (by omega)
        by_cases e : k < i
        · exact up _ (ih2 k e)
        · obtain rfl : k = i := by omega
          have s1 : Lin.InSpan n ((keptOf n M k).length + 1) (vec (keptOf n M k ++ [redTo n (rowOf M k) (keptOf n M k) (keptOf n M k).length])) (vecOf (redTo n (rowOf M k) (keptOf n M k) (keptOf n M k).length)) := by
            have := Lin.span_self (n := n) (k := (keptOf n M k).length + 1) (vec (keptOf n M k ++ [redTo n (rowOf M k) (keptOf n M k) (keptOf n M k).length])) (i := (keptOf n M k).length) (by omega)
            rw [vec_append_eq] at this
            exact this
          have s2 := up (fun j => Lin.fsum (keptOf n M k).length (fun l => Lin.mu (c l) (vec (keptOf n M k) l j))) ⟨c, fun j _ => rfl⟩
          refine Lin.span_congr (Lin.span_ad s1 s2) (fun _ _ _ _ => rfl) fun j hj => ?_
          show Lin.ad (vecOf _ j) _ = vec M k j
          rw [hc j hj, Lin.ad_assoc, Lin.ad_self, Lin.ad_zero]
          rfl
    · rename_i hlt
      refine ⟨fun k hk => Lin.span_mono (ih1 k hk) (by omega), fun k hk => ?_⟩
      by_cases e : k < i
      · exact ih2 k e
      · obtain rfl : k = i := by omega
        have hz : ∀ j, j < n → vecOf (redTo n (rowOf M k) (keptOf n M k) (keptOf n M k).length) j = 0 := fun j hj => by
          unfold vecOf
          rw [leadIdx_zero _ j (by omega)]
          rfl
        refine Lin.span_congr (⟨c, fun j _ => rfl⟩ : Lin.InSpan n (keptOf n M k).length (vec (keptOf n M k)) (fun j => Lin.fsum (keptOf n M k).length (fun l => Lin.mu (c l) (vec (keptOf n M k) l j)))) (fun _ _ _ _ => rfl) fun j hj => ?_
        have := hc j hj
        rw [hz j hj] at this
        exact (Lin.eq_of_ad this.symm).symm
/-- The document's rank is the rank. -/
theorem keptOf_rank (n : Nat) (M : List (List Nat)) (hM : ∀ i, Gf.Bytes (rowOf M i)) (hl : ∀ i, i < M.length → (rowOf M i).length = n) : Lin.IsRank n M.length (vec M) (keptOf n M M.length).length :=
  ⟨vec (keptOf n M M.length), stair_indep (keptOf_stair n M hM hl _ (Nat.le_refl _)), (keptOf_basis n M hM hl _ (Nat.le_refl _)).1, (keptOf_basis n M hM hl _ (Nat.le_refl _)).2⟩
end Go.Proofs.YtmlcbphcphpihaaDoor
