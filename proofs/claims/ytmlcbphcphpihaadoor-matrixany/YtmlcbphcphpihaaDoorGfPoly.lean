/- Polynomials over the field of bytes, as lists of coefficients on plain numbers: their values, and Lagrange's polynomials. -/
import Derived.Test.YtmlcbphcphpihaaDoorGf
namespace Go.Proofs.YtmlcbphcphpihaaDoor.Gf
/-- The value at x, the lowest coefficient first. -/
def horner (x : Nat) : List Nat → Nat
  | [] => 0
  | c :: r => mul (horner x r) x ^^^ c
/-- Number i of a list (0 behind its end). -/
def nth (l : List Nat) (i : Nat) : Nat := l.getD i 0
/-- The product of x + xs[k] over all k below n but i. -/
def prodAt (xs : List Nat) (i x : Nat) : Nat → Nat
  | 0 => 1
  | k + 1 => if k = i then prodAt xs i x k else mul (prodAt xs i x k) (x ^^^ nth xs k)
def shareOf (xs : List Nat) (i x : Nat) : Nat := mul (prodAt xs i x xs.length) (inv (prodAt xs i (nth xs i) xs.length))
def lagr (xs ys : List Nat) (x : Nat) : Nat → Nat
  | 0 => 0
  | k + 1 => lagr xs ys x k ^^^ mul (nth ys k) (shareOf xs k x)
def Bytes (l : List Nat) : Prop := ∀ i, nth l i < 256
theorem Bytes.tail {c : Nat} {r : List Nat} (h : Bytes (c :: r)) : Bytes r := fun i => by simpa [nth] using h (i + 1)
theorem horner_lt (x : Nat) : ∀ l : List Nat, Bytes l → horner x l < 256
  | [], _ => by show 0 < 256; decide
  | c :: r, h => xlt (mul_lt (horner_lt x r h.tail) x) (by simpa [nth] using h 0)
theorem Bytes.drop {l : List Nat} (h : Bytes l) (n : Nat) : Bytes (l.drop n) := fun i => by
  have := h (n + i)
  simpa [nth, List.getD_eq_getElem?_getD, List.getElem?_drop] using this
theorem prodAt_lt (xs : List Nat) (i x : Nat) : ∀ k, prodAt xs i x k < 256
  | 0 => by show 1 < 256; decide
  | k + 1 => by
    unfold prodAt
    split
    · exact prodAt_lt xs i x k
    · exact mul_lt (prodAt_lt xs i x k) _
theorem shareOf_lt (xs : List Nat) (i x : Nat) : shareOf xs i x < 256 := mul_lt (prodAt_lt _ _ _ _) _
theorem lagr_lt (xs ys : List Nat) (x : Nat) (hy : Bytes ys) : ∀ k, lagr xs ys x k < 256
  | 0 => by show 0 < 256; decide
  | k + 1 => xlt (lagr_lt xs ys x hy k) (mul_lt (hy k) _)
theorem drop_pred (l : List Nat) (i : Nat) (h : i < l.length) : l.drop (l.length - (i + 1)) = nth l (l.length - 1 - i) :: l.drop (l.length - i) := by
  rw [List.drop_eq_getElem_cons (by omega), show l.length - (i + 1) + 1 = l.length - i from by omega]
  congr 1
  unfold nth
  rw [List.getD_eq_getElem?_getD, List.getElem?_eq_getElem (by omega)]
  simp [show l.length - (i + 1) = l.length - 1 - i from by omega]
theorem nth_getElem (l : List Nat) (k : Nat) (h : k < l.length) : nth l k = l[k] := by
  unfold nth; rw [List.getD_eq_getElem?_getD, List.getElem?_eq_getElem h]; rfl
theorem take_nth (l : List Nat) (k : Nat) (h : k < l.length) : l.take (k + 1) = l.take k ++ [nth l k] := by
  rw [List.take_succ_eq_append_getElem h, nth_getElem l k h]
theorem not_nodup (l : List Nat) (k : Nat) (h : k < l.length) (hm : nth l k ∈ l.take k) : ¬ l.Nodup := by
  intro hn
  have h1 : (l.take (k + 1)).Nodup := hn.sublist (List.take_sublist _ _)
  rw [take_nth l k h, List.nodup_append] at h1
  exact h1.2.2 _ hm _ (List.mem_singleton.2 rfl) rfl
theorem nodup_take (l : List Nat) (k : Nat) (h : k < l.length) (hn : (l.take k).Nodup) (hm : nth l k ∉ l.take k) : (l.take (k + 1)).Nodup := by
  rw [take_nth l k h, List.nodup_append]
  refine ⟨hn, by simp, ?_⟩
  intro a ha b hb e
  rw [List.mem_singleton] at hb
  rw [e, hb] at ha
  exact hm ha
end Go.Proofs.YtmlcbphcphpihaaDoor.Gf
