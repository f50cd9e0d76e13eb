/- Rows made simpler, column by column: what GAUSS and JORDAN do keeps the span, tells the rank, and makes an inverse. -/
import Derived.Test.YtmlcbphcphpihaaDoorGfRank
namespace Go.Proofs.YtmlcbphcphpihaaDoor.Lin
/-- Row p goes to place d, divided by what it has in column k; row d to place p. -/
def liftV (g : Nat → Nat → F) (d p k : Nat) : Nat → Nat → F := fun i j => if i = d then mu (iv (g p k)) (g p j) else if i = p then g d j else g i j
/-- Row d is taken away from the others. -/
def clearV (h : Nat → Nat → F) (d k : Nat) : Nat → Nat → F := fun i j => if i = d then h i j else ad (h i j) (mu (h i k) (h d j))
/-- Behind k columns: d of them are done; the rows span the same. -/
structure Red (r n k : Nat) (f g : Nat → Nat → F) (d : Nat) : Prop where
  le : d ≤ r
  to : ∀ i, i < r → InSpan n r f (g i)
  from_ : ∀ i, i < r → InSpan n r g (f i)
  piv : ∃ p : Nat → Nat, (∀ i, i < d → p i < k ∧ g i (p i) = 1 ∧ ∀ i', i' < r → i' ≠ i → g i' (p i) = 0) ∧ ∀ i j, i < j → j < d → p i < p j
  zero : ∀ i, d ≤ i → i < r → ∀ j, j < k → g i j = 0
theorem Red.start (r n : Nat) (f : Nat → Nat → F) : Red r n 0 f f 0 where
  le := Nat.zero_le _
  to := fun _ hi => span_self f hi
  from_ := fun _ hi => span_self f hi
  piv := ⟨fun _ => 0, fun _ hi => absurd hi (Nat.not_lt_zero _), fun _ _ _ hj => absurd hj (Nat.not_lt_zero _)⟩
  zero := fun _ _ _ _ hj => absurd hj (Nat.not_lt_zero _)
theorem Red.skip {r n k d : Nat} {f g : Nat → Nat → F} (h : Red r n k f g d) (h0 : ∀ i, d ≤ i → i < r → g i k = 0) : Red r n (k + 1) f g d where
  le := h.le
  to := h.to
  from_ := h.from_
  piv := by
    obtain ⟨p, h1, h2⟩ := h.piv
    exact ⟨p, fun i hi => ⟨Nat.lt_succ_of_lt (h1 i hi).1, (h1 i hi).2⟩, h2⟩
  zero := fun i hd hi j hj => by
    by_cases e : j = k
    · rw [e]; exact h0 i hd hi
    · exact h.zero i hd hi j (by omega)
theorem span_scale {n r : Nat} {v : Nat → Nat → F} {x y : Nat → F} (hx : InSpan n r v x) (a : F) (h : ∀ j, y j = mu a (x j)) : InSpan n r v y := span_congr (span_mu hx a) (fun _ _ _ _ => rfl) (fun j _ => (h j).symm)
theorem lift_to {r n d p k : Nat} {g : Nat → Nat → F} (hd : d < r) (hp : p < r) : ∀ i, i < r → InSpan n r g (liftV g d p k i) := fun i hi => by
  by_cases e : i = d
  · exact span_scale (span_self g hp) (iv (g p k)) (fun j => by unfold liftV; rw [if_pos e])
  · by_cases e' : i = p
    · exact span_congr (span_self g hd) (fun _ _ _ _ => rfl) (fun j _ => by unfold liftV; rw [if_neg e, if_pos e'])
    · exact span_congr (span_self g hi) (fun _ _ _ _ => rfl) (fun j _ => by unfold liftV; rw [if_neg e, if_neg e'])
theorem lift_from {r n d p k : Nat} {g : Nat → Nat → F} (hd : d < r) (hp : p < r) (hne : g p k ≠ 0) : ∀ i, i < r → InSpan n r (liftV g d p k) (g i) := fun i hi => by
  by_cases e : i = p
  · refine span_scale (span_self (liftV g d p k) hd) (g p k) (fun j => ?_)
    unfold liftV
    rw [if_pos rfl, ← mu_assoc, mu_iv _ hne, one_mu, e]
  · by_cases e' : i = d
    · refine span_congr (span_self (liftV g d p k) hp) (fun _ _ _ _ => rfl) (fun j _ => ?_)
      unfold liftV
      rw [if_neg (fun h => e (by rw [e', h])), if_pos rfl, e']
    · refine span_congr (span_self (liftV g d p k) hi) (fun _ _ _ _ => rfl) (fun j _ => ?_)
      unfold liftV
      rw [if_neg e', if_neg e]
theorem clear_to {r n d k : Nat} {h : Nat → Nat → F} (hd : d < r) : ∀ i, i < r → InSpan n r h (clearV h d k i) := fun i hi => by
  by_cases e : i = d
  · exact span_congr (span_self h hi) (fun _ _ _ _ => rfl) (fun j _ => by unfold clearV; rw [if_pos e])
  · exact span_congr (span_ad (span_self h hi) (span_mu (span_self h hd) (h i k))) (fun _ _ _ _ => rfl) (fun j _ => by unfold clearV; rw [if_neg e])
theorem clear_from {r n d k : Nat} {h : Nat → Nat → F} (hd : d < r) : ∀ i, i < r → InSpan n r (clearV h d k) (h i) := fun i hi => by
  by_cases e : i = d
  · exact span_congr (span_self (clearV h d k) hi) (fun _ _ _ _ => rfl) (fun j _ => by unfold clearV; rw [if_pos e])
  · refine span_congr (span_ad (span_self (clearV h d k) hi) (span_mu (span_self (clearV h d k) hd) (h i k))) (fun _ _ _ _ => rfl) (fun j _ => ?_)
    show ad (clearV h d k i j) (mu (h i k) (clearV h d k d j)) = h i j
    unfold clearV
    rw [if_neg e, if_pos rfl, ad_assoc, ad_self, ad_zero]
/-- One column more is done. -/
theorem Red.step {r n k d p : Nat} {f g : Nat → Nat → F} (h : Red r n k f g d) (hdp : d ≤ p) (hp : p < r) (hne : g p k ≠ 0) : Red r n (k + 1) f (clearV (liftV g d p k) d k) (d + 1) := by
  have hd : d < r := by omega
  have L0 : ∀ j, liftV g d p k d j = mu (iv (g p k)) (g p j) := fun j => by unfold liftV; rw [if_pos rfl]
  have Ldk : liftV g d p k d k = 1 := by rw [L0, iv_mu _ hne]
  have C0 : ∀ j, clearV (liftV g d p k) d k d j = liftV g d p k d j := fun j => by unfold clearV; rw [if_pos rfl]
  have C1 : ∀ i j, i ≠ d → liftV g d p k d j = 0 → clearV (liftV g d p k) d k i j = liftV g d p k i j := fun i j hi hz => by unfold clearV; rw [if_neg hi, hz, mu_zero, ad_zero]
  have Ck : ∀ i, i ≠ d → clearV (liftV g d p k) d k i k = 0 := fun i hi => by unfold clearV; rw [if_neg hi, Ldk, mu_one, ad_self]
  obtain ⟨q, q1, q2⟩ := h.piv
  have Lq : ∀ i, i < d → liftV g d p k d (q i) = 0 := fun i hi => by rw [L0, (q1 i hi).2.2 p hp (by omega), mu_zero]
  refine ⟨by omega, fun i hi => span_trans (span_trans (clear_to hd i hi) (lift_to hd hp)) h.to, fun i hi => span_trans (span_trans (h.from_ i hi) (lift_from hd hp hne)) (clear_from hd), ?_, ?_⟩
  · refine ⟨fun i => if i = d then k else q i, fun i hi => ?_, fun i j hij hj => ?_⟩
    · by_cases e : i = d
      · subst e
        simp only [if_true]
        exact ⟨by omega, by rw [C0, Ldk], fun i' _ hi' => Ck i' hi'⟩
      · simp only [e, if_false]
        have hid : i < d := by omega
        refine ⟨by have := (q1 i hid).1; omega, ?_, fun i' hi' hne' => ?_⟩
        · rw [C1 i (q i) e (Lq i hid)]
          unfold liftV
          rw [if_neg e, if_neg (by omega)]
          exact (q1 i hid).2.1
        · by_cases e2 : i' = d
          · rw [e2, C0]; exact Lq i hid
          · rw [C1 i' (q i) e2 (Lq i hid)]
            unfold liftV
            rw [if_neg e2]
            by_cases e3 : i' = p
            · rw [if_pos e3]; exact (q1 i hid).2.2 d hd (by omega)
            · rw [if_neg e3]; exact (q1 i hid).2.2 i' hi' hne'
    · by_cases e : j = d
      · simp only [e, if_true, show ¬ i = d by omega, if_false]
        exact (q1 i (by omega)).1
      · simp only [e, if_false, show ¬ i = d by omega]
        exact q2 i j hij (by omega)
  · intro i hi hir j hj
    by_cases e : j = k
    · rw [e]; exact Ck i (by omega)
    · have hz : liftV g d p k d j = 0 := by rw [L0, h.zero p hdp hp j (by omega), mu_zero]
      rw [C1 i j (by omega) hz]
      unfold liftV
      rw [if_neg (by omega)]
      by_cases e3 : i = p
      · rw [if_pos e3]; exact h.zero d (Nat.le_refl _) hd j (by omega)
      · rw [if_neg e3]; exact h.zero i (by omega) hir j (by omega)
theorem span_less {n c r : Nat} {v : Nat → Nat → F} {u : Nat → F} (h : InSpan n r v u) (hc : c ≤ n) : InSpan c r v u := by
  obtain ⟨a, ha⟩ := h
  exact ⟨a, fun j hj => ha j (by omega)⟩
theorem fsum_less {f : Nat → F} {m : Nat} : ∀ {k : Nat}, m ≤ k → (∀ i, m ≤ i → i < k → f i = 0) → fsum k f = fsum m f
  | 0, h, _ => by rw [show m = 0 by omega]
  | k + 1, h, hz => by
    by_cases e : m = k + 1
    · rw [e]
    · show ad (fsum k f) (f k) = _
      rw [hz k (by omega) (by omega), ad_zero]
      exact fsum_less (by omega) (fun i h1 h2 => hz i h1 (by omega))
/-- How many were done is the rank of the columns that were looked at. -/
theorem Red.rank {r n c d : Nat} {f g : Nat → Nat → F} (h : Red r n c f g d) (hc : c ≤ n) : IsRank c r f d := by
  obtain ⟨q, q1, _⟩ := h.piv
  refine ⟨g, ?_, fun i hi => span_less (h.to i (by have := h.le; omega)) hc, fun i hi => ?_⟩
  · intro a ha i hi
    have := ha (q i) (q1 i hi).1
    rw [fsum_one i _ d hi (fun i' hi' hne => by rw [(q1 i hi).2.2 i' (by have := h.le; omega) hne, mu_zero]), (q1 i hi).2.1, mu_one] at this
    exact this
  · obtain ⟨a, ha⟩ := h.from_ i hi
    refine ⟨a, fun j hj => ?_⟩
    rw [ha j (by omega)]
    exact fsum_less h.le (fun i' h1 h2 => by rw [h.zero i' h1 h2 j hj, mu_zero])
/-- Where all columns are done, they are 1 in the diagonal, else 0. -/
theorem Red.diag {r n : Nat} {f g : Nat → Nat → F} (h : Red r n r f g r) : ∀ i j, i < r → j < r → g i j = one i j := by
  obtain ⟨q, q1, q2⟩ := h.piv
  have up : ∀ i, i < r → i ≤ q i := fun i => by
    induction i with
    | zero => intro _; exact Nat.zero_le _
    | succ i ih => intro hi; have h1 := ih (by omega); have h2 := q2 i (i + 1) (by omega) hi; omega
  have down : ∀ m, m < r → q (r - 1 - m) ≤ r - 1 - m := fun m => by
    induction m with
    | zero => intro hm; have := (q1 (r - 1) (by omega)).1; show q (r - 1) ≤ r - 1; omega
    | succ m ih => intro hm; have h1 := ih (by omega); have h2 := q2 (r - 1 - (m + 1)) (r - 1 - m) (by omega) (by omega); omega
  have id : ∀ i, i < r → q i = i := fun i hi => by
    have h1 := up i hi
    have h2 := down (r - 1 - i) (by omega)
    rw [show r - 1 - (r - 1 - i) = i by omega] at h2
    omega
  intro i j hi hj
  have := q1 j hj
  rw [id j hj] at this
  unfold one
  by_cases e : i = j
  · rw [if_pos e, e]; exact this.2.1
  · rw [if_neg e]; exact this.2.2 i hi e
/-- What holds between the columns of all rows holds between those of all rows that they span. -/
theorem Red.cols {r n c d m l : Nat} {f g : Nat → Nat → F} (h : Red r n c f g d) (a : Nat → Nat → F) (hm : m + l ≤ n) (hf : ∀ i, i < r → ∀ j, j < m → f i j = fsum l (fun t => mu (f i (m + t)) (a t j))) : ∀ i, i < r → ∀ j, j < m → g i j = fsum l (fun t => mu (g i (m + t)) (a t j)) := by
  intro i hi j hj
  obtain ⟨b, hb⟩ := h.to i hi
  rw [hb j (by omega)]
  have e1 : fsum l (fun t => mu (g i (m + t)) (a t j)) = fsum l (fun t => fsum r (fun s => mu (mu (b s) (f s (m + t))) (a t j))) := fsum_congr fun t ht => by
    rw [hb (m + t) (by omega), ← fsum_mu_right]
  rw [e1, fsum_swap]
  refine fsum_congr fun s hs => ?_
  rw [hf s hs j hj, ← fsum_mu]
  exact fsum_congr fun t _ => (mu_assoc _ _ _).symm
/-- A matrix with 1 in the diagonal beside it: what makes the left one 1 in the diagonal leaves the inverse. -/
theorem Red.inverse {r : Nat} {m f g : Nat → Nat → F} (h : Red r (2 * r) r f g r) (h1 : ∀ i j, i < r → j < r → f i j = m i j) (h2 : ∀ i j, i < r → j < r → f i (r + j) = one i j) : ∀ i j, i < r → j < r → mm r (fun i j => g i (r + j)) m i j = one i j := by
  intro i j hi hj
  have hc := h.cols (m := r) (l := r) m (by omega) (fun i hi j hj => by
    rw [h1 i j hi hj]
    have : fsum r (fun t => mu (f i (r + t)) (m t j)) = fsum r (fun t => mu (one i t) (m t j)) := fsum_congr fun t ht => by rw [h2 i t hi ht]
    rw [this]
    exact (one_mm r m i j hi).symm) i hi j hj
  rw [← h.diag i j hi hj, hc]
  rfl
end Go.Proofs.YtmlcbphcphpihaaDoor.Lin
