/- The document's own values and Lagrange's polynomials, point by point, are the program's. -/
import Derived.Test.YtmlcbphcphpihaaDoorGfRef
import Derived.Test.YtmlcbphcphpihaaDoorGfLagr
namespace Go.Proofs.YtmlcbphcphpihaaDoor.Gf
def rsum (l : List Nat) (x : Nat) : Nat → Nat
  | 0 => 0
  | k + 1 => rsum l x k ^^^ mul (nth l k) (rep x k)
theorem rsum_lt (l : List Nat) (x : Nat) (h : Bytes l) : ∀ k, rsum l x k < 256
  | 0 => by show 0 < 256; decide
  | k + 1 => xlt (rsum_lt l x h k) (mul_lt (h k) _)
theorem horner_snoc (x c : Nat) (hx : x < 256) (hc : c < 256) : ∀ l : List Nat, Bytes l → horner x (l ++ [c]) = horner x l ^^^ mul c (rep x l.length)
  | [], _ => by show mul 0 x ^^^ c = 0 ^^^ mul c 1; rw [zero_mul, mul_one]
  | d :: r, h => by
    show mul (horner x (r ++ [c])) x ^^^ d = (mul (horner x r) x ^^^ d) ^^^ mul c (mul (rep x r.length) x)
    rw [horner_snoc x c hx hc r h.tail, mul_left _ _ _ (horner_lt x r h.tail) (mul_lt hc _), mul_assoc c _ x hc (rep_lt x _)]
    ac_rfl
theorem bytes_take {l : List Nat} (h : Bytes l) (k : Nat) : Bytes (l.take k) := fun i => by
  by_cases hi : i < k
  · have := h i
    simpa [nth, List.getD_eq_getElem?_getD, List.getElem?_take, hi] using this
  · simp [nth, List.getD_eq_getElem?_getD, List.getElem?_take, hi]
theorem rsum_horner (l : List Nat) (x : Nat) (hx : x < 256) (h : Bytes l) : ∀ k, k ≤ l.length → rsum l x k = horner x (l.take k)
  | 0, _ => by simp [rsum, horner]
  | k + 1, hk => by
    rw [take_nth l k (by omega), horner_snoc x _ hx (h k) _ (bytes_take h k), ← rsum_horner l x hx h k (by omega)]
    show _ ^^^ _ = _
    rw [List.length_take, Nat.min_eq_left (by omega)]
theorem rsum_all (l : List Nat) (x : Nat) (hx : x < 256) (h : Bytes l) : rsum l x l.length = horner x l := by
  rw [rsum_horner l x hx h _ (Nat.le_refl _), List.take_length]
theorem inv_mul_of (a b : Nat) (ha : a < 256) (hb : b < 256) (h1 : a ≠ 0) (h2 : b ≠ 0) : inv (mul a b) = mul (inv a) (inv b) := by
  symm
  refine inv_unique (mul a b) _ (mul_lt ha b) (mul_lt (inv_lt a) _) (mul_ne ha hb h1 h2) ?_
  rw [mul_assoc a b _ ha hb, ← mul_assoc b (inv a) _ hb (inv_lt a), mul_comm b (inv a) hb (inv_lt a), mul_assoc (inv a) b _ (inv_lt a) hb, mul_inv b hb h2, mul_one, mul_inv a ha h1]
def bas (xs : List Nat) (i x : Nat) : Nat → Nat
  | 0 => 1
  | k + 1 => if k = i then bas xs i x k else mul (bas xs i x k) (mul (x ^^^ nth xs k) (inv (nth xs i ^^^ nth xs k)))
theorem bas_lt (xs : List Nat) (i x : Nat) : ∀ k, bas xs i x k < 256
  | 0 => by show 1 < 256; decide
  | k + 1 => by
    unfold bas
    split
    · exact bas_lt xs i x k
    · exact mul_lt (bas_lt xs i x k) _
theorem mul4 (a b c d : Nat) (ha : a < 256) (hb : b < 256) (hc : c < 256) : mul (mul a b) (mul c d) = mul (mul a c) (mul b d) := by
  rw [mul_assoc a b _ ha hb, ← mul_assoc b c d hb hc, mul_comm b c hb hc, mul_assoc c b d hc hb, ← mul_assoc a c _ ha hc]
theorem inv_one : inv 1 = 1 := by decide +kernel
theorem bas_eq (xs : List Nat) (hx : Bytes xs) (hn : xs.Nodup) (i x : Nat) (hi : i < xs.length) (hx' : x < 256) : ∀ k, k ≤ xs.length → bas xs i x k = mul (prodAt xs i x k) (inv (prodAt xs i (nth xs i) k))
  | 0, _ => by show 1 = mul 1 (inv 1); rw [inv_one, mul_one]
  | k + 1, hk => by
    have ih := bas_eq xs hx hn i x hi hx' k (by omega)
    unfold bas prodAt
    by_cases e : k = i
    · rw [if_pos e, if_pos e, if_pos e]; exact ih
    · rw [if_neg e, if_neg e, if_neg e, ih]
      have h1 := prodAt_ne xs hx hn i hi k (by omega)
      have h2 : nth xs i ^^^ nth xs k ≠ 0 := xor_ne fun h' => e (nth_inj xs hn (by omega) hi h'.symm)
      rw [inv_mul_of _ _ (prodAt_lt _ _ _ _) (xlt (hx i) (hx k)) h1 h2]
      exact mul4 _ _ _ _ (prodAt_lt _ _ _ _) (inv_lt _) (xlt hx' (hx k))
theorem bas_share (xs : List Nat) (hx : Bytes xs) (hn : xs.Nodup) (i x : Nat) (hi : i < xs.length) (hx' : x < 256) : bas xs i x xs.length = shareOf xs i x := bas_eq xs hx hn i x hi hx' _ (Nat.le_refl _)
end Go.Proofs.YtmlcbphcphpihaaDoor.Gf
