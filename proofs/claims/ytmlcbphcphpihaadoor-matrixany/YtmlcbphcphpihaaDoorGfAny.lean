/- Vandermonde: rows of powers, and rows of Lagrange's polynomials, at places that differ are independent; the one matrix times the first rows of the other. -/
import Derived.Test.YtmlcbphcphpihaaDoorGfRank
import Derived.Test.YtmlcbphcphpihaaDoorGfRefPoly
namespace Go.Proofs.YtmlcbphcphpihaaDoor
open Lin (F fsum ad mu)
theorem horner_fsum (x : Nat) (hx : x < 256) (l : List Nat) (h : Gf.Bytes l) : toF (Gf.horner x l) = fsum l.length (fun j => mu (toF (Gf.nth l j)) (toF (Gf.rep x j))) := by
  rw [← Gf.rsum_all l x hx h]
  have key : ∀ k, toF (Gf.rsum l x k) = fsum k (fun j => mu (toF (Gf.nth l j)) (toF (Gf.rep x j))) := by
    intro k
    induction k with
    | zero => rfl
    | succ k ih =>
      show toF (Gf.rsum l x k ^^^ Gf.mul (Gf.nth l k) (Gf.rep x k)) = ad _ _
      rw [toF_ad (Gf.rsum_lt l x h k) (Gf.mul_lt (h k) _), ih, toF_mu (h k) (Gf.rep_lt x k)]
  exact key _
theorem fsum_pad (f : Nat → F) (m : Nat) : ∀ k, m ≤ k → (∀ i, m ≤ i → i < k → f i = 0) → fsum k f = fsum m f
  | 0, h, _ => by obtain rfl : m = 0 := by omega
                  rfl
  | k + 1, h, hz => by
    by_cases e : m = k + 1
    · rw [e]
    · show ad (fsum k f) (f k) = _
      rw [hz k (by omega) (by omega), Lin.ad_zero]
      exact fsum_pad f m k (by omega) fun i h1 h2 => hz i h1 (by omega)
/-- A sum over places that is 0 at every polynomial of up to k coefficients. -/
theorem dual (X : List Nat) (hX : Gf.Bytes X) (hn : X.Nodup) (c : Nat → F) (h : ∀ p : List Nat, Gf.Bytes p → p.length ≤ X.length → fsum X.length (fun r => mu (c r) (toF (Gf.horner (Gf.nth X r) p))) = 0) : ∀ s, s < X.length → c s = 0 := by
  intro s hs
  have hp := h (Gf.prodPoly X s X.length) (Gf.prodPoly_bytes X hX s _) (by
    have := Gf.prodPoly_length X s X.length
    rw [if_pos hs] at this
    omega)
  rw [Lin.fsum_one s _ X.length hs] at hp
  · rw [Gf.horner_prodPoly X hX] at hp
    refine Classical.byContradiction fun hc => Lin.mu_ne hc ?_ hp
    intro e
    exact Gf.prodAt_ne X hX hn s hs _ (Nat.le_refl _) ((toF_zero (Gf.prodAt_lt _ _ _ _)).1 e)
  · intro i hi hne
    rw [Gf.horner_prodPoly X hX, Gf.prodAt_zero X s i hne _ hi]
    show mu _ (toF 0) = 0
    exact Lin.mu_zero _
/-- VANDERMONDE. -/
theorem powers_indep (X : List Nat) (hX : Gf.Bytes X) (hn : X.Nodup) : Lin.Indep X.length X.length (fun r j => toF (Gf.rep (Gf.nth X r) j)) := by
  intro c hc
  refine dual X hX hn c fun p hp hl => ?_
  have e1 : fsum X.length (fun r => mu (c r) (toF (Gf.horner (Gf.nth X r) p))) = fsum X.length (fun r => fsum p.length (fun j => mu (toF (Gf.nth p j)) (mu (c r) (toF (Gf.rep (Gf.nth X r) j))))) := Lin.fsum_congr fun r _ => by
    rw [horner_fsum _ (hX r) p hp, ← Lin.fsum_mu]
    exact Lin.fsum_congr fun j _ => by rw [← Lin.mu_assoc, Lin.mu_comm (c r), Lin.mu_assoc]
  rw [e1, Lin.fsum_swap]
  refine Lin.fsum_zero fun j hj => ?_
  rw [Lin.fsum_mu, hc j (by omega), Lin.mu_zero]
theorem lagr_fsum (xs ys : List Nat) (hy : Gf.Bytes ys) (x : Nat) : ∀ k, toF (Gf.lagr xs ys x k) = fsum k (fun j => mu (toF (Gf.nth ys j)) (toF (Gf.shareOf xs j x)))
  | 0 => rfl
  | k + 1 => by
    show toF (Gf.lagr xs ys x k ^^^ Gf.mul (Gf.nth ys k) (Gf.shareOf xs k x)) = ad _ _
    rw [toF_ad (Gf.lagr_lt xs ys x hy k) (Gf.mul_lt (hy k) _), lagr_fsum xs ys hy x k, toF_mu (hy k) (Gf.shareOf_lt _ _ _)]
/-- What a polynomial has at x, of what it has at the places xs. -/
theorem told_fsum (xs p : List Nat) (hx : Gf.Bytes xs) (hn : xs.Nodup) (hp : Gf.Bytes p) (hl : p.length ≤ xs.length) (x : Nat) (hx' : x < 256) : toF (Gf.horner x p) = fsum xs.length (fun j => mu (toF (Gf.horner (Gf.nth xs j) p)) (toF (Gf.shareOf xs j x))) := by
  have hyb : Gf.Bytes (rowFn xs.length fun j => Gf.horner (Gf.nth xs j) p) := rowFn_bytes _ _ fun j => Gf.horner_lt _ p hp
  rw [← Gf.through p xs (rowFn xs.length fun j => Gf.horner (Gf.nth xs j) p) hp hx hyb hn hl (fun j hj => nth_rowFn _ _ j hj) x hx', lagr_fsum _ _ hyb]
  exact Lin.fsum_congr fun j hj => by rw [nth_rowFn _ _ j hj]
/-- Rows of Lagrange's polynomials over the places xs, at places X that differ, as many. -/
theorem shares_indep (xs X : List Nat) (hx : Gf.Bytes xs) (hxn : xs.Nodup) (hX : Gf.Bytes X) (hn : X.Nodup) (hl : X.length = xs.length) : Lin.Indep xs.length X.length (fun r j => toF (Gf.shareOf xs j (Gf.nth X r))) := by
  intro c hc
  refine dual X hX hn c fun p hp hpl => ?_
  have e1 : fsum X.length (fun r => mu (c r) (toF (Gf.horner (Gf.nth X r) p))) = fsum X.length (fun r => fsum xs.length (fun j => mu (toF (Gf.horner (Gf.nth xs j) p)) (mu (c r) (toF (Gf.shareOf xs j (Gf.nth X r)))))) := Lin.fsum_congr fun r _ => by
    rw [told_fsum xs p hx hxn hp (by omega) _ (hX r), ← Lin.fsum_mu]
    exact Lin.fsum_congr fun j _ => by rw [← Lin.mu_assoc, Lin.mu_comm (c r), Lin.mu_assoc]
  rw [e1, Lin.fsum_swap]
  refine Lin.fsum_zero fun j hj => ?_
  rw [Lin.fsum_mu, hc j hj, Lin.mu_zero]
/-- One times x so often. -/
def monom (m : Nat) : List Nat := rowFn (m + 1) fun j => if j = m then 1 else 0
theorem monom_bytes (m : Nat) : Gf.Bytes (monom m) := rowFn_bytes _ _ fun j => by split <;> decide
theorem monom_horner (m x : Nat) (hx : x < 256) : toF (Gf.horner x (monom m)) = toF (Gf.rep x m) := by
  rw [horner_fsum x hx _ (monom_bytes m), show (monom m).length = m + 1 from rowFn_length _ _, Lin.fsum_one m _ (m + 1) (by omega)]
  · unfold monom
    rw [nth_rowFn _ _ m (by omega), if_pos rfl]
    exact Lin.one_mu _
  · intro i hi hne
    unfold monom
    rw [nth_rowFn _ _ i hi, if_neg hne]
    exact Lin.zero_mu _
/-- Lagrange's rows times the powers of their places are the powers. -/
theorem shares_times_powers (xs : List Nat) (hx : Gf.Bytes xs) (hxn : xs.Nodup) (x m : Nat) (hx' : x < 256) (hm : m < xs.length) : fsum xs.length (fun j => mu (toF (Gf.shareOf xs j x)) (toF (Gf.rep (Gf.nth xs j) m))) = toF (Gf.rep x m) := by
  rw [← monom_horner m x hx', told_fsum xs (monom m) hx hxn (monom_bytes m) (by rw [show (monom m).length = m + 1 from rowFn_length _ _]; omega) x hx']
  exact Lin.fsum_congr fun j _ => by rw [monom_horner m _ (hx j), Lin.mu_comm]
end Go.Proofs.YtmlcbphcphpihaaDoor
