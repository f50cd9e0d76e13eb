/- Texts laid together. -/
import Derived.RowKit
namespace Go.Proofs.YtmbpfbhpmafheaaGreatDoor
open Go.RowKit
namespace Gf
def tx (a : Nat) : Nat := if a < 128 then a * 2 else (a * 2 - 256) ^^^ 29
def txn (a : Nat) : Nat → Nat
  | 0 => a
  | k + 1 => tx (txn a k)
def bitOf (b i : Nat) : Nat := b / 2 ^ i % 2
def part (a b : Nat) : Nat → Nat
  | 0 => 0
  | k + 1 => if bitOf b k = 1 then part a b k ^^^ txn a k else part a b k
def mul (a b : Nat) : Nat := part a b 8

theorem tx_lt {a : Nat} (h : a < 256) : tx a < 256 := by
  unfold tx; split
  · omega
  · exact Nat.xor_lt_two_pow (n := 8) (by omega) (by decide)
theorem txn_lt {a : Nat} (h : a < 256) (k : Nat) : txn a k < 256 := by
  induction k with
  | zero => exact h
  | succ k ih => exact tx_lt ih
theorem part_lt {a : Nat} (h : a < 256) (b k : Nat) : part a b k < 256 := by
  induction k with
  | zero => exact (by decide : (0 : Nat) < 256)
  | succ k ih => unfold part; split
                 · exact Nat.xor_lt_two_pow (n := 8) ih (txn_lt h k)
                 · exact ih
theorem mul_lt {a : Nat} (h : a < 256) (b : Nat) : mul a b < 256 := part_lt h b 8

/-- tx by plain bits. -/
theorem tx_eq : ∀ a : Nat, a < 256 → tx a = (a <<< 1) % 2 ^ 8 ^^^ (29 * (a >>> 7)) := by decide +kernel
theorem bit_cases (a : Nat) (h : a < 256) : a >>> 7 = 0 ∨ a >>> 7 = 1 := by
  rw [Nat.shiftRight_eq_div_pow]; omega
theorem xlt {a b : Nat} (ha : a < 256) (hb : b < 256) : a ^^^ b < 256 := Nat.xor_lt_two_pow (n := 8) ha hb
theorem tx_xor (a b : Nat) (ha : a < 256) (hb : b < 256) : tx (a ^^^ b) = tx a ^^^ tx b := by
  rw [tx_eq _ (xlt ha hb), tx_eq _ ha, tx_eq _ hb, Nat.shiftLeft_xor_distrib, Nat.shiftRight_xor_distrib, Nat.xor_mod_two_pow]
  have h29 : 29 * (a >>> 7 ^^^ b >>> 7) = 29 * (a >>> 7) ^^^ 29 * (b >>> 7) := by
    rcases bit_cases a ha with h | h <;> rcases bit_cases b hb with h' | h' <;> rw [h, h'] <;> rfl
  rw [h29]
  ac_rfl
theorem txn_xor (a b : Nat) (ha : a < 256) (hb : b < 256) (k : Nat) : txn (a ^^^ b) k = txn a k ^^^ txn b k := by
  induction k with
  | zero => rfl
  | succ k ih => show tx (txn (a ^^^ b) k) = tx (txn a k) ^^^ tx (txn b k)
                 rw [ih, tx_xor _ _ (txn_lt ha k) (txn_lt hb k)]
theorem tx_zero : tx 0 = 0 := by decide
theorem txn_zero (k : Nat) : txn 0 k = 0 := by
  induction k with
  | zero => rfl
  | succ k ih => show tx (txn 0 k) = 0; rw [ih, tx_zero]
theorem bit_xor (b c k : Nat) : bitOf (b ^^^ c) k = (bitOf b k + bitOf c k) % 2 := by
  unfold bitOf
  rw [← Nat.shiftRight_eq_div_pow, ← Nat.shiftRight_eq_div_pow, ← Nat.shiftRight_eq_div_pow, Nat.shiftRight_xor_distrib]
  have := Nat.xor_mod_two_pow (a := b >>> k) (b := c >>> k) (n := 1)
  simp only [Nat.pow_one] at this
  rw [this]
  rcases Nat.mod_two_eq_zero_or_one (b >>> k) with h | h <;> rcases Nat.mod_two_eq_zero_or_one (c >>> k) with h' | h' <;> rw [h, h'] <;> rfl
theorem bit_01 (b k : Nat) : bitOf b k = 0 ∨ bitOf b k = 1 := Nat.mod_two_eq_zero_or_one _
theorem part_left (a a' b : Nat) (ha : a < 256) (ha' : a' < 256) (k : Nat) : part (a ^^^ a') b k = part a b k ^^^ part a' b k := by
  induction k with
  | zero => exact (Nat.xor_self 0).symm
  | succ k ih =>
    simp only [part]
    rw [ih, txn_xor a a' ha ha']
    split
    · ac_rfl
    · rfl
theorem part_right (a b c : Nat) (k : Nat) : part a (b ^^^ c) k = part a b k ^^^ part a c k := by
  induction k with
  | zero => exact (Nat.xor_self 0).symm
  | succ k ih =>
    simp only [part]
    rw [ih, bit_xor]
    have hx : txn a k ^^^ txn a k = 0 := Nat.xor_self _
    rcases bit_01 b k with h | h <;> rcases bit_01 c k with h' | h' <;> rw [h, h'] <;> simp
    · ac_rfl
    · ac_rfl
    · have : part a b k ^^^ txn a k ^^^ (part a c k ^^^ txn a k) = part a b k ^^^ part a c k ^^^ (txn a k ^^^ txn a k) := by ac_rfl
      rw [this, hx, Nat.xor_zero]
theorem mul_left (a a' b : Nat) (ha : a < 256) (ha' : a' < 256) : mul (a ^^^ a') b = mul a b ^^^ mul a' b := part_left a a' b ha ha' 8
theorem mul_right (a b c : Nat) : mul a (b ^^^ c) = mul a b ^^^ mul a c := part_right a b c 8
theorem mul_zero (a : Nat) : mul a 0 = 0 := by simp [mul, part, bitOf]
theorem part_zero (b k : Nat) : part 0 b k = 0 := by
  induction k with
  | zero => rfl
  | succ k ih => unfold part; rw [ih, txn_zero]; simp
theorem zero_mul (b : Nat) : mul 0 b = 0 := part_zero b 8
theorem mul_one (a : Nat) : mul a 1 = a := by simp [mul, part, bitOf, txn]
theorem one_mul : ∀ b : Nat, b < 256 → mul 1 b = b := by decide +kernel
theorem txn_tx (a k : Nat) : txn (tx a) k = tx (txn a k) := by
  induction k with
  | zero => rfl
  | succ k ih => show tx (txn (tx a) k) = _; rw [ih]; rfl
theorem part_tx (a b : Nat) (ha : a < 256) (k : Nat) : part (tx a) b k = tx (part a b k) := by
  induction k with
  | zero => exact tx_zero.symm
  | succ k ih =>
    simp only [part]
    rw [ih, txn_tx]
    split
    · rw [tx_xor _ _ (part_lt ha b k) (txn_lt ha k)]
    · rfl
theorem tx_mul (a b : Nat) (ha : a < 256) : mul (tx a) b = tx (mul a b) := part_tx a b ha 8
theorem txn_mul (a b : Nat) (ha : a < 256) (k : Nat) : mul (txn a k) b = txn (mul a b) k := by
  induction k with
  | zero => rfl
  | succ k ih => show mul (tx (txn a k)) b = tx (txn (mul a b) k); rw [tx_mul _ _ (txn_lt ha k), ih]
/-- A number below 256 out of its eight bits. -/
theorem part_one : ∀ b : Nat, b < 256 → part 1 b 8 = b := one_mul
/-- mul is told by its products with the powers of x on the right. -/
theorem part_comm (a b : Nat) (ha : a < 256) (k : Nat) : mul (part 1 b k) a = part a b k := by
  induction k with
  | zero => exact zero_mul a
  | succ k ih =>
    simp only [part]
    split
    · rw [mul_left _ _ _ (part_lt (by decide) b k) (txn_lt (by decide) k), ih, txn_mul 1 a (by decide) k, one_mul a ha]
    · exact ih
theorem mul_comm (a b : Nat) (ha : a < 256) (hb : b < 256) : mul a b = mul b a := by
  have h := part_comm a b ha 8
  rw [part_one b hb] at h
  exact h.symm
theorem part_assoc (a b c : Nat) (ha : a < 256) (hb : b < 256) (k : Nat) : part (mul a b) c k = mul a (part b c k) := by
  induction k with
  | zero => exact (mul_zero a).symm
  | succ k ih =>
    simp only [part]
    split
    · rw [ih, mul_right, mul_comm a (txn b k) ha (txn_lt hb k), txn_mul b a hb k, mul_comm b a hb ha]
    · exact ih
theorem mul_assoc (a b c : Nat) (ha : a < 256) (hb : b < 256) : mul (mul a b) c = mul a (mul b c) := part_assoc a b c ha hb 8

/-- power by eight bits of n, as the program makes it. -/
def sq (a : Nat) : Nat → Nat
  | 0 => a
  | k + 1 => mul (sq a k) (sq a k)
def pw (a n : Nat) : Nat → Nat
  | 0 => 1
  | k + 1 => if bitOf n k = 1 then mul (pw a n k) (sq a k) else pw a n k
def power (a n : Nat) : Nat := pw a n 8
def inv (a : Nat) : Nat := power a 254
theorem sq_lt {a : Nat} (h : a < 256) (k : Nat) : sq a k < 256 := by
  induction k with
  | zero => exact h
  | succ k ih => exact mul_lt ih _
theorem pw_lt {a : Nat} (n k : Nat) : pw a n k < 256 := by
  induction k with
  | zero => exact (by decide : (1 : Nat) < 256)
  | succ k ih => unfold pw; split
                 · exact mul_lt ih _
                 · exact ih
theorem power_lt (a n : Nat) : power a n < 256 := pw_lt n 8
theorem inv_lt (a : Nat) : inv a < 256 := power_lt a 254
set_option maxRecDepth 100000 in
theorem mul_inv : ∀ a : Nat, a < 256 → a ≠ 0 → mul a (inv a) = 1 := by decide +kernel
theorem inv_mul (a : Nat) (h : a < 256) (h0 : a ≠ 0) : mul (inv a) a = 1 := by
  rw [mul_comm _ _ (inv_lt a) h]; exact mul_inv a h h0

/-- a n times with itself. -/
def rep (a : Nat) : Nat → Nat
  | 0 => 1
  | n + 1 => mul (rep a n) a
end Gf
namespace Gf
def rprod (a b : Nat) : Nat → Nat
  | 0 => 0
  | k + 1 => if bitOf b k = 1 then rprod a b k ^^^ (a * 2 ^ k) else rprod a b k
def rstep (i n : Nat) : Nat := if bitOf n i = 1 then n ^^^ (285 * 2 ^ (i - 8)) else n
def rr (n : Nat) : Nat → Nat
  | 0 => n
  | j + 1 => rstep (14 - j) (rr n j)
def rmod (n : Nat) : Nat := rr n 7 % 256
def rmul (a b : Nat) : Nat := rmod (rprod a b 8)
theorem rprod_lt {a : Nat} (h : a < 256) (b : Nat) : ∀ k, k ≤ 8 → rprod a b k < 2 ^ 15
  | 0, _ => by show 0 < 2 ^ 15; decide
  | k + 1, hk => by
    unfold rprod
    have hm : a * 2 ^ k < 2 ^ 15 := by
      have h1 : 2 ^ k ≤ 2 ^ 7 := Nat.pow_le_pow_right (by decide) (by omega)
      have h2 : a * 2 ^ k ≤ 255 * 2 ^ 7 := Nat.mul_le_mul (by omega) h1
      exact Nat.lt_of_le_of_lt h2 (by decide)
    split
    · exact Nat.xor_lt_two_pow (rprod_lt h b k (by omega)) hm
    · exact rprod_lt h b k (by omega)
theorem rstep_lt {i n : Nat} (hi : i ≤ 14) (hn : n < 2 ^ 15) : rstep i n < 2 ^ 15 := by
  unfold rstep
  split
  · refine Nat.xor_lt_two_pow hn ?_
    have h1 : 2 ^ (i - 8) ≤ 2 ^ 6 := Nat.pow_le_pow_right (by decide) (by omega)
    have h2 : 285 * 2 ^ (i - 8) ≤ 285 * 2 ^ 6 := Nat.mul_le_mul (Nat.le_refl _) h1
    exact Nat.lt_of_le_of_lt h2 (by decide)
  · exact hn
theorem rr_lt {n : Nat} (hn : n < 2 ^ 15) : ∀ j, rr n j < 2 ^ 15
  | 0 => hn
  | j + 1 => rstep_lt (by omega) (rr_lt hn j)
theorem rstep_xor (i x y : Nat) : rstep i (x ^^^ y) = rstep i x ^^^ rstep i y := by
  unfold rstep
  rw [bit_xor]
  have hx : ∀ c : Nat, c ^^^ c = 0 := Nat.xor_self
  rcases bit_01 x i with h | h <;> rcases bit_01 y i with h' | h' <;> rw [h, h'] <;> simp
  · ac_rfl
  · ac_rfl
  · have : x ^^^ 285 * 2 ^ (i - 8) ^^^ (y ^^^ 285 * 2 ^ (i - 8)) = x ^^^ y ^^^ (285 * 2 ^ (i - 8) ^^^ 285 * 2 ^ (i - 8)) := by ac_rfl
    rw [this, hx, Nat.xor_zero]
theorem rr_xor (x y : Nat) : ∀ j, rr (x ^^^ y) j = rr x j ^^^ rr y j
  | 0 => rfl
  | j + 1 => by show rstep _ (rr (x ^^^ y) j) = rstep _ (rr x j) ^^^ rstep _ (rr y j); rw [rr_xor x y j, rstep_xor]
theorem rmod_xor (x y : Nat) : rmod (x ^^^ y) = rmod x ^^^ rmod y := by
  unfold rmod
  rw [rr_xor]
  exact Nat.xor_mod_two_pow (n := 8)
theorem rmod_shift_all : (List.range 8).all (fun k => (List.range 256).all fun a => rmod (a * 2 ^ k) == txn a k) = true := by decide +kernel
theorem rmod_shift (a k : Nat) (ha : a < 256) (hk : k < 8) : rmod (a * 2 ^ k) = txn a k := by
  have h := List.all_eq_true.1 rmod_shift_all k (List.mem_range.2 hk)
  have h' := List.all_eq_true.1 h a (List.mem_range.2 ha)
  simpa using h'
theorem rmod_zero : rmod 0 = 0 := by decide
theorem rmod_rprod (a b : Nat) (ha : a < 256) : ∀ k, k ≤ 8 → rmod (rprod a b k) = part a b k
  | 0, _ => rmod_zero
  | k + 1, hk => by
    simp only [rprod, part]
    split
    · rw [rmod_xor, rmod_rprod a b ha k (by omega), rmod_shift a k ha (by omega)]
    · exact rmod_rprod a b ha k (by omega)
theorem rmul_eq (a b : Nat) (ha : a < 256) : rmul a b = mul a b := rmod_rprod a b ha 8 (Nat.le_refl _)

/-- Only the inverse times a is 1. -/
theorem inv_unique (a b : Nat) (ha : a < 256) (hb : b < 256) (h0 : a ≠ 0) (h : mul a b = 1) : b = inv a := by
  have h1 : mul (inv a) (mul a b) = mul (inv a) 1 := by rw [h]
  rw [← mul_assoc (inv a) a b (inv_lt a) ha, inv_mul a ha h0, mul_one, one_mul b hb] at h1
  exact h1
theorem inv_pos (a : Nat) (ha : a < 256) (h0 : a ≠ 0) : inv a ≠ 0 := by
  intro h
  have := mul_inv a ha h0
  rw [h, mul_zero] at this
  exact absurd this (by decide)
theorem rep_lt (a : Nat) : ∀ n, rep a n < 256
  | 0 => by show 1 < 256; decide
  | n + 1 => mul_lt (rep_lt a n) a
theorem rep_add (a : Nat) (ha : a < 256) (m : Nat) : ∀ n, rep a (m + n) = mul (rep a m) (rep a n)
  | 0 => (mul_one _).symm
  | n + 1 => by
    show mul (rep a (m + n)) a = mul (rep a m) (mul (rep a n) a)
    rw [rep_add a ha m n, mul_assoc _ _ _ (rep_lt a m) (rep_lt a n)]
theorem rep_sq (a : Nat) (ha : a < 256) : ∀ k, sq a k = rep a (2 ^ k)
  | 0 => by show a = mul 1 a; exact (one_mul a ha).symm
  | k + 1 => by
    show mul (sq a k) (sq a k) = rep a (2 ^ (k + 1))
    rw [rep_sq a ha k, ← rep_add a ha, Nat.pow_succ]
    congr 1; omega
theorem mod_bit (n k : Nat) : n % 2 ^ (k + 1) = n % 2 ^ k + bitOf n k * 2 ^ k := by
  unfold bitOf
  rw [Nat.pow_succ, Nat.mod_mul]
  rw [Nat.mul_comm (2 ^ k)]
theorem pw_rep (a n : Nat) (ha : a < 256) : ∀ k, pw a n k = rep a (n % 2 ^ k)
  | 0 => by show 1 = rep a (n % 1); rw [Nat.mod_one]; rfl
  | k + 1 => by
    simp only [pw]
    rw [pw_rep a n ha k, rep_sq a ha k, mod_bit]
    rcases bit_01 n k with h | h <;> rw [h] <;> simp
    rw [rep_add a ha]
theorem power_rep (a n : Nat) (ha : a < 256) (hn : n < 256) : power a n = rep a n := by
  have := pw_rep a n ha 8
  rw [show n % 2 ^ 8 = n from Nat.mod_eq_of_lt hn] at this
  exact this
end Gf
namespace Gf
/-- The value at x, the lowest coefficient first. -/
def horner (x : Nat) : List Nat → Nat
  | [] => 0
  | c :: r => mul (horner x r) x ^^^ c
/-- Number i of a list (0 behind its end). -/
def nth (l : List Nat) (i : Nat) : Nat := l.getD i 0
/-- The product of x + xs[k] over all k below n but i. -/
def prodAt (xs : List Nat) (i x : Nat) : Nat → Nat
  | 0 => 1
  | k + 1 => if k = i then prodAt xs i x k else mul (prodAt xs i x k) (x ^^^ nth xs k)
def shareOf (xs : List Nat) (i x : Nat) : Nat := mul (prodAt xs i x xs.length) (inv (prodAt xs i (nth xs i) xs.length))
def lagr (xs ys : List Nat) (x : Nat) : Nat → Nat
  | 0 => 0
  | k + 1 => lagr xs ys x k ^^^ mul (nth ys k) (shareOf xs k x)
def Bytes (l : List Nat) : Prop := ∀ i, nth l i < 256
theorem Bytes.tail {c : Nat} {r : List Nat} (h : Bytes (c :: r)) : Bytes r := fun i => by simpa [nth] using h (i + 1)
theorem horner_lt (x : Nat) : ∀ l : List Nat, Bytes l → horner x l < 256
  | [], _ => by show 0 < 256; decide
  | c :: r, h => xlt (mul_lt (horner_lt x r h.tail) x) (by simpa [nth] using h 0)
theorem Bytes.drop {l : List Nat} (h : Bytes l) (n : Nat) : Bytes (l.drop n) := fun i => by
  have := h (n + i)
  simpa [nth, List.getD_eq_getElem?_getD, List.getElem?_drop] using this
theorem prodAt_lt (xs : List Nat) (i x : Nat) : ∀ k, prodAt xs i x k < 256
  | 0 => by show 1 < 256; decide
  | k + 1 => by
    unfold prodAt
    split
    · exact prodAt_lt xs i x k
    · exact mul_lt (prodAt_lt xs i x k) _
theorem shareOf_lt (xs : List Nat) (i x : Nat) : shareOf xs i x < 256 := mul_lt (prodAt_lt _ _ _ _) _
theorem lagr_lt (xs ys : List Nat) (x : Nat) (hy : Bytes ys) : ∀ k, lagr xs ys x k < 256
  | 0 => by show 0 < 256; decide
  | k + 1 => xlt (lagr_lt xs ys x hy k) (mul_lt (hy k) _)
theorem drop_pred (l : List Nat) (i : Nat) (h : i < l.length) : l.drop (l.length - (i + 1)) = nth l (l.length - 1 - i) :: l.drop (l.length - i) := by
  rw [List.drop_eq_getElem_cons (by omega), show l.length - (i + 1) + 1 = l.length - i from by omega]
  congr 1
  unfold nth
  rw [List.getD_eq_getElem?_getD, List.getElem?_eq_getElem (by omega)]
  simp [show l.length - (i + 1) = l.length - 1 - i from by omega]
theorem nth_getElem (l : List Nat) (k : Nat) (h : k < l.length) : nth l k = l[k] := by
  unfold nth; rw [List.getD_eq_getElem?_getD, List.getElem?_eq_getElem h]; rfl
theorem take_nth (l : List Nat) (k : Nat) (h : k < l.length) : l.take (k + 1) = l.take k ++ [nth l k] := by
  rw [List.take_succ_eq_append_getElem h, nth_getElem l k h]
theorem not_nodup (l : List Nat) (k : Nat) (h : k < l.length) (hm : nth l k ∈ l.take k) : ¬ l.Nodup := by
  intro hn
  have h1 : (l.take (k + 1)).Nodup := hn.sublist (List.take_sublist _ _)
  rw [take_nth l k h, List.nodup_append] at h1
  exact h1.2.2 _ hm _ (List.mem_singleton.2 rfl) rfl
theorem nodup_take (l : List Nat) (k : Nat) (h : k < l.length) (hn : (l.take k).Nodup) (hm : nth l k ∉ l.take k) : (l.take (k + 1)).Nodup := by
  rw [take_nth l k h, List.nodup_append]
  refine ⟨hn, by simp, ?_⟩
  intro a ha b hb e
  rw [List.mem_singleton] at hb
  rw [e, hb] at ha
  exact hm ha
end Gf
namespace Gf
theorem bytes_nil : Bytes [] := fun i => by simp [nth]
theorem bytes_cons {c : Nat} {r : List Nat} (hc : c < 256) (hr : Bytes r) : Bytes (c :: r) := fun i => by
  cases i with
  | zero => simpa [nth] using hc
  | succ i => simpa [nth] using hr i
theorem bytes_head {c : Nat} {r : List Nat} (h : Bytes (c :: r)) : c < 256 := by simpa [nth] using h 0
theorem xor_left_comm (a b c d : Nat) : (a ^^^ b) ^^^ (c ^^^ d) = (a ^^^ c) ^^^ (b ^^^ d) := by ac_rfl
theorem eq_of_xor {a b : Nat} (h : a ^^^ b = 0) : a = b := by
  have : (a ^^^ b) ^^^ b = b := by rw [h, Nat.zero_xor]
  rw [Nat.xor_assoc, Nat.xor_self, Nat.xor_zero] at this
  exact this
theorem xor_ne {a b : Nat} (h : a ≠ b) : a ^^^ b ≠ 0 := fun e => h (eq_of_xor e)
def padd : List Nat → List Nat → List Nat
  | [], b => b
  | x :: a, [] => x :: a
  | x :: a, y :: b => (x ^^^ y) :: padd a b
theorem padd_bytes : ∀ a b : List Nat, Bytes a → Bytes b → Bytes (padd a b)
  | [], _, _, hb => hb
  | _ :: _, [], ha, _ => ha
  | _ :: a, _ :: b, ha, hb => bytes_cons (xlt (bytes_head ha) (bytes_head hb)) (padd_bytes a b ha.tail hb.tail)
theorem padd_length : ∀ (a b : List Nat) (n : Nat), a.length ≤ n → b.length ≤ n → (padd a b).length ≤ n
  | [], _, _, _, hb => hb
  | _ :: _, [], _, ha, _ => ha
  | _ :: a, _ :: b, n, ha, hb => by
    cases n with
    | zero => simp at ha
    | succ n => simp only [List.length_cons, Nat.add_le_add_iff_right] at ha hb; simp only [padd, List.length_cons, Nat.add_le_add_iff_right]; exact padd_length a b n ha hb
theorem horner_padd (x : Nat) : ∀ a b : List Nat, Bytes a → Bytes b → horner x (padd a b) = horner x a ^^^ horner x b
  | [], b, _, _ => by show horner x b = 0 ^^^ horner x b; rw [Nat.zero_xor]
  | c :: a, [], _, _ => by show horner x (c :: a) = horner x (c :: a) ^^^ 0; rw [Nat.xor_zero]
  | c :: a, d :: b, ha, hb => by
    show mul (horner x (padd a b)) x ^^^ (c ^^^ d) = (mul (horner x a) x ^^^ c) ^^^ (mul (horner x b) x ^^^ d)
    rw [horner_padd x a b ha.tail hb.tail, mul_left _ _ _ (horner_lt x a ha.tail) (horner_lt x b hb.tail)]
    exact xor_left_comm _ _ _ _
def pscale (c : Nat) : List Nat → List Nat
  | [] => []
  | d :: r => mul c d :: pscale c r
theorem pscale_bytes {c : Nat} (hc : c < 256) : ∀ l : List Nat, Bytes (pscale c l)
  | [] => bytes_nil
  | d :: r => bytes_cons (mul_lt hc d) (pscale_bytes hc r)
theorem pscale_length (c : Nat) : ∀ l : List Nat, (pscale c l).length = l.length
  | [] => rfl
  | _ :: r => by simp [pscale, pscale_length c r]
theorem horner_pscale (c x : Nat) (hc : c < 256) : ∀ l : List Nat, Bytes l → horner x (pscale c l) = mul c (horner x l)
  | [], _ => (mul_zero c).symm
  | d :: r, h => by
    show mul (horner x (pscale c r)) x ^^^ mul c d = mul c (mul (horner x r) x ^^^ d)
    rw [horner_pscale c x hc r h.tail, mul_right, mul_assoc c _ x hc (horner_lt x r h.tail)]
/-- times (x + c). -/
def plin (l : List Nat) (c : Nat) : List Nat := padd (0 :: l) (pscale c l)
theorem plin_bytes {l : List Nat} {c : Nat} (h : Bytes l) (hc : c < 256) : Bytes (plin l c) := padd_bytes _ _ (bytes_cons (by decide) h) (pscale_bytes hc l)
theorem plin_length {l : List Nat} {c n : Nat} (h : l.length ≤ n) : (plin l c).length ≤ n + 1 := padd_length _ _ _ (by simpa using h) (by rw [pscale_length]; omega)
theorem horner_plin (l : List Nat) (c x : Nat) (h : Bytes l) (hc : c < 256) : horner x (plin l c) = mul (horner x l) (x ^^^ c) := by
  unfold plin
  rw [horner_padd x _ _ (bytes_cons (by decide) h) (pscale_bytes hc l), horner_pscale c x hc l h, mul_right, mul_comm c _ hc (horner_lt x l h)]
  show (mul (horner x l) x ^^^ 0) ^^^ _ = _
  rw [Nat.xor_zero]
/-- What is left of l by (x + r). -/
def pdiv (r : Nat) : List Nat → List Nat
  | [] => []
  | _ :: t => match t with
    | [] => []
    | _ :: _ => horner r t :: pdiv r t
theorem pdiv_bytes (r : Nat) : ∀ l : List Nat, Bytes l → Bytes (pdiv r l)
  | [], _ => bytes_nil
  | [_], _ => bytes_nil
  | _ :: d :: t, h => bytes_cons (horner_lt r _ h.tail) (pdiv_bytes r (d :: t) h.tail)
theorem pdiv_length (r : Nat) : ∀ (l : List Nat) (n : Nat), l.length ≤ n + 1 → (pdiv r l).length ≤ n
  | [], _, _ => Nat.zero_le _
  | [_], _, _ => Nat.zero_le _
  | _ :: d :: t, n, h => by
    cases n with
    | zero => simp at h
    | succ n =>
      have := pdiv_length r (d :: t) n (by simpa using h)
      simpa [pdiv] using this
theorem horner_pdiv (r x : Nat) (hr : r < 256) (hx : x < 256) : ∀ l : List Nat, Bytes l → horner x l = mul (horner x (pdiv r l)) (x ^^^ r) ^^^ horner r l
  | [], _ => by show 0 = mul 0 _ ^^^ 0; rw [zero_mul]; rfl
  | [c], _ => by show mul 0 x ^^^ c = mul 0 _ ^^^ (mul 0 r ^^^ c); rw [zero_mul, zero_mul, zero_mul]; simp
  | c :: d :: t, h => by
    have ih := horner_pdiv r x hr hx (d :: t) h.tail
    have hq := horner_lt x _ (pdiv_bytes r (d :: t) h.tail)
    have hh := horner_lt r _ h.tail
    show mul (horner x (d :: t)) x ^^^ c = mul (mul (horner x (pdiv r (d :: t))) x ^^^ horner r (d :: t)) (x ^^^ r) ^^^ (mul (horner r (d :: t)) r ^^^ c)
    rw [ih]
    generalize horner x (pdiv r (d :: t)) = q at hq
    generalize horner r (d :: t) = s at hh
    have hxr := xlt hx hr
    rw [mul_left _ _ _ (mul_lt hq _) hh, mul_left _ _ _ (mul_lt hq _) hh, mul_assoc q _ x hq hxr, mul_assoc q x _ hq hx, mul_comm (x ^^^ r) x hxr hx, mul_right s x r]
    have e : mul s r ^^^ mul s r = 0 := Nat.xor_self _
    have : mul q (mul x (x ^^^ r)) ^^^ (mul s x ^^^ mul s r) ^^^ (mul s r ^^^ c) = mul q (mul x (x ^^^ r)) ^^^ mul s x ^^^ c ^^^ (mul s r ^^^ mul s r) := by ac_rfl
    rw [this, e, Nat.xor_zero]
theorem no_zero {a b : Nat} (ha : a < 256) (hb : b < 256) (h0 : b ≠ 0) (h : mul a b = 0) : a = 0 := by
  have h1 : mul (mul a b) (inv b) = a := by rw [mul_assoc a b _ ha hb, mul_inv b hb h0, mul_one]
  rw [h, zero_mul] at h1
  exact h1.symm
theorem roots : ∀ (rs l : List Nat), Bytes l → l.length ≤ rs.length → rs.Nodup → (∀ r ∈ rs, r < 256 ∧ horner r l = 0) → ∀ x, x < 256 → horner x l = 0
  | [], l, _, hlen, _, _, x, _ => by
    have : l = [] := List.length_eq_zero_iff.1 (by simpa using hlen)
    rw [this]; rfl
  | r :: rs, l, hl, hlen, hn, hz, x, hx => by
    have hr := hz r (List.mem_cons_self ..)
    have hq := pdiv_bytes r l hl
    have hd : ∀ y, y < 256 → horner y l = mul (horner y (pdiv r l)) (y ^^^ r) := fun y hy => by
      rw [horner_pdiv r y hr.1 hy l hl, hr.2, Nat.xor_zero]
    have key := roots rs (pdiv r l) hq (pdiv_length r l _ (by simpa using hlen)) (List.nodup_cons.1 hn).2 (fun s hs => by
      have h1 := hz s (List.mem_cons_of_mem _ hs)
      refine ⟨h1.1, ?_⟩
      have h2 := hd s h1.1
      rw [h1.2] at h2
      refine no_zero (horner_lt s _ hq) (xlt h1.1 hr.1) (xor_ne ?_) h2.symm
      intro e
      rw [e] at hs
      exact (List.nodup_cons.1 hn).1 hs) x hx
    rw [hd x hx, key, zero_mul]
def prodPoly (xs : List Nat) (i : Nat) : Nat → List Nat
  | 0 => [1]
  | k + 1 => if k = i then prodPoly xs i k else plin (prodPoly xs i k) (nth xs k)
theorem prodPoly_bytes (xs : List Nat) (hx : Bytes xs) (i : Nat) : ∀ k, Bytes (prodPoly xs i k)
  | 0 => bytes_cons (by decide) bytes_nil
  | k + 1 => by
    unfold prodPoly
    split
    · exact prodPoly_bytes xs hx i k
    · exact plin_bytes (prodPoly_bytes xs hx i k) (hx k)
theorem prodPoly_length (xs : List Nat) (i : Nat) : ∀ k, (prodPoly xs i k).length ≤ k + 1 - (if i < k then 1 else 0)
  | 0 => by simp [prodPoly]
  | k + 1 => by
    have ih := prodPoly_length xs i k
    unfold prodPoly
    split
    · rename_i e
      subst e
      rw [if_neg (Nat.lt_irrefl _)] at ih
      rw [if_pos (Nat.lt_succ_self _)]
      omega
    · rename_i e
      by_cases h : i < k
      · rw [if_pos h] at ih
        rw [if_pos (by omega)]
        have := plin_length (c := nth xs k) ih
        omega
      · rw [if_neg h] at ih
        rw [if_neg (by omega)]
        have := plin_length (c := nth xs k) ih
        omega
theorem horner_prodPoly (xs : List Nat) (hx : Bytes xs) (i x : Nat) : ∀ k, horner x (prodPoly xs i k) = prodAt xs i x k
  | 0 => by show mul 0 x ^^^ 1 = 1; rw [zero_mul]; rfl
  | k + 1 => by
    unfold prodPoly prodAt
    split
    · exact horner_prodPoly xs hx i x k
    · rw [horner_plin _ _ _ (prodPoly_bytes xs hx i k) (hx k), horner_prodPoly xs hx i x k]
def coef (xs ys : List Nat) (k : Nat) : Nat := mul (nth ys k) (inv (prodAt xs k (nth xs k) xs.length))
def lagrPoly (xs ys : List Nat) : Nat → List Nat
  | 0 => []
  | k + 1 => padd (lagrPoly xs ys k) (pscale (coef xs ys k) (prodPoly xs k xs.length))
theorem coef_lt (xs ys : List Nat) (hy : Bytes ys) (k : Nat) : coef xs ys k < 256 := mul_lt (hy k) _
theorem lagrPoly_bytes (xs ys : List Nat) (hy : Bytes ys) : ∀ k, Bytes (lagrPoly xs ys k)
  | 0 => bytes_nil
  | k + 1 => padd_bytes _ _ (lagrPoly_bytes xs ys hy k) (pscale_bytes (coef_lt xs ys hy k) _)
theorem lagrPoly_length (xs ys : List Nat) : ∀ k, k ≤ xs.length → (lagrPoly xs ys k).length ≤ xs.length
  | 0, _ => Nat.zero_le _
  | k + 1, h => by
    refine padd_length _ _ _ (lagrPoly_length xs ys k (by omega)) ?_
    rw [pscale_length]
    have := prodPoly_length xs k xs.length
    rw [if_pos (by omega)] at this
    omega
theorem horner_lagrPoly (xs ys : List Nat) (hx : Bytes xs) (hy : Bytes ys) (x : Nat) : ∀ k, horner x (lagrPoly xs ys k) = lagr xs ys x k
  | 0 => rfl
  | k + 1 => by
    show horner x (padd _ _) = lagr xs ys x k ^^^ mul (nth ys k) (shareOf xs k x)
    rw [horner_padd x _ _ (lagrPoly_bytes xs ys hy k) (pscale_bytes (coef_lt xs ys hy k) _), horner_lagrPoly xs ys hx hy x k, horner_pscale _ x (coef_lt xs ys hy k) _ (prodPoly_bytes xs hx k _), horner_prodPoly xs hx k x]
    unfold coef shareOf
    rw [mul_assoc _ _ _ (hy k) (inv_lt _), mul_comm (inv _) _ (inv_lt _) (prodAt_lt _ _ _ _)]
theorem prodAt_zero (xs : List Nat) (i j : Nat) (hij : j ≠ i) : ∀ k, j < k → prodAt xs i (nth xs j) k = 0
  | 0, h => absurd h (Nat.not_lt_zero _)
  | k + 1, h => by
    unfold prodAt
    split
    · rename_i e
      exact prodAt_zero xs i j hij k (by omega)
    · by_cases e : j = k
      · subst e
        rw [Nat.xor_self, mul_zero]
      · rw [prodAt_zero xs i j hij k (by omega), zero_mul]
theorem nth_inj (xs : List Nat) (hn : xs.Nodup) {i j : Nat} (hi : i < xs.length) (hj : j < xs.length) (h : nth xs i = nth xs j) : i = j := by
  rw [nth_getElem xs i hi, nth_getElem xs j hj] at h
  have hp := List.pairwise_iff_getElem.1 hn
  rcases Nat.lt_trichotomy i j with h' | h' | h'
  · exact absurd h (hp i j hi hj h')
  · exact h'
  · exact absurd h.symm (hp j i hj hi h')
theorem mul_ne {a b : Nat} (ha : a < 256) (hb : b < 256) (h1 : a ≠ 0) (h2 : b ≠ 0) : mul a b ≠ 0 := fun h => h1 (no_zero ha hb h2 h)
theorem prodAt_ne (xs : List Nat) (hx : Bytes xs) (hn : xs.Nodup) (i : Nat) (hi : i < xs.length) : ∀ k, k ≤ xs.length → prodAt xs i (nth xs i) k ≠ 0
  | 0, _ => by show (1 : Nat) ≠ 0; decide
  | k + 1, h => by
    unfold prodAt
    split
    · exact prodAt_ne xs hx hn i hi k (by omega)
    · rename_i e
      exact mul_ne (prodAt_lt _ _ _ _) (xlt (hx i) (hx k)) (prodAt_ne xs hx hn i hi k (by omega)) (xor_ne fun h' => e (nth_inj xs hn (by omega) hi h'.symm))
theorem share_self (xs : List Nat) (hx : Bytes xs) (hn : xs.Nodup) (i : Nat) (hi : i < xs.length) : shareOf xs i (nth xs i) = 1 :=
  mul_inv _ (prodAt_lt _ _ _ _) (prodAt_ne xs hx hn i hi _ (Nat.le_refl _))
theorem share_other (xs : List Nat) (i j : Nat) (hj : j < xs.length) (h : j ≠ i) : shareOf xs i (nth xs j) = 0 := by
  unfold shareOf
  rw [prodAt_zero xs i j h _ hj, zero_mul]
theorem lagr_at (xs ys : List Nat) (hx : Bytes xs) (hn : xs.Nodup) (j : Nat) (hj : j < xs.length) : ∀ k, k ≤ xs.length → lagr xs ys (nth xs j) k = if j < k then nth ys j else 0
  | 0, _ => by rw [if_neg (Nat.not_lt_zero _)]; rfl
  | k + 1, h => by
    unfold lagr
    rw [lagr_at xs ys hx hn j hj k (by omega)]
    by_cases e : j = k
    · subst e
      rw [if_neg (Nat.lt_irrefl _), if_pos (Nat.lt_succ_self _), share_self xs hx hn j hj, mul_one, Nat.zero_xor]
    · rw [share_other xs k j hj e, mul_zero, Nat.xor_zero]
      by_cases h' : j < k
      · rw [if_pos h', if_pos (by omega)]
      · rw [if_neg h', if_neg (by omega)]
/-- LAGRANGE. -/
theorem through (p xs ys : List Nat) (hp : Bytes p) (hx : Bytes xs) (hy : Bytes ys) (hn : xs.Nodup) (hlen : p.length ≤ xs.length) (hv : ∀ j, j < xs.length → nth ys j = horner (nth xs j) p) (x : Nat) (hx' : x < 256) :
    lagr xs ys x xs.length = horner x p := by
  have hb := lagrPoly_bytes xs ys hy xs.length
  have h0 := roots xs (padd (lagrPoly xs ys xs.length) p) (padd_bytes _ _ hb hp) (padd_length _ _ _ (lagrPoly_length xs ys _ (Nat.le_refl _)) hlen) hn (fun r hr => by
    obtain ⟨j, hj, rfl⟩ := List.getElem_of_mem hr
    rw [← nth_getElem xs j hj]
    refine ⟨hx j, ?_⟩
    rw [horner_padd _ _ _ hb hp, horner_lagrPoly xs ys hx hy, lagr_at xs ys hx hn j hj _ (Nat.le_refl _), if_pos hj, hv j hj, Nat.xor_self]) x hx'
  rw [horner_padd x _ _ hb hp, horner_lagrPoly xs ys hx hy] at h0
  exact eq_of_xor h0
end Gf
namespace Gf
def rsum (l : List Nat) (x : Nat) : Nat → Nat
  | 0 => 0
  | k + 1 => rsum l x k ^^^ mul (nth l k) (rep x k)
theorem rsum_lt (l : List Nat) (x : Nat) (h : Bytes l) : ∀ k, rsum l x k < 256
  | 0 => by show 0 < 256; decide
  | k + 1 => xlt (rsum_lt l x h k) (mul_lt (h k) _)
theorem horner_snoc (x c : Nat) (hx : x < 256) (hc : c < 256) : ∀ l : List Nat, Bytes l → horner x (l ++ [c]) = horner x l ^^^ mul c (rep x l.length)
  | [], _ => by show mul 0 x ^^^ c = 0 ^^^ mul c 1; rw [zero_mul, mul_one]
  | d :: r, h => by
    show mul (horner x (r ++ [c])) x ^^^ d = (mul (horner x r) x ^^^ d) ^^^ mul c (mul (rep x r.length) x)
    rw [horner_snoc x c hx hc r h.tail, mul_left _ _ _ (horner_lt x r h.tail) (mul_lt hc _), mul_assoc c _ x hc (rep_lt x _)]
    ac_rfl
theorem bytes_take {l : List Nat} (h : Bytes l) (k : Nat) : Bytes (l.take k) := fun i => by
  by_cases hi : i < k
  · have := h i
    simpa [nth, List.getD_eq_getElem?_getD, List.getElem?_take, hi] using this
  · simp [nth, List.getD_eq_getElem?_getD, List.getElem?_take, hi]
theorem rsum_horner (l : List Nat) (x : Nat) (hx : x < 256) (h : Bytes l) : ∀ k, k ≤ l.length → rsum l x k = horner x (l.take k)
  | 0, _ => by simp [rsum, horner]
  | k + 1, hk => by
    rw [take_nth l k (by omega), horner_snoc x _ hx (h k) _ (bytes_take h k), ← rsum_horner l x hx h k (by omega)]
    show _ ^^^ _ = _
    rw [List.length_take, Nat.min_eq_left (by omega)]
theorem rsum_all (l : List Nat) (x : Nat) (hx : x < 256) (h : Bytes l) : rsum l x l.length = horner x l := by
  rw [rsum_horner l x hx h _ (Nat.le_refl _), List.take_length]
theorem inv_mul_of (a b : Nat) (ha : a < 256) (hb : b < 256) (h1 : a ≠ 0) (h2 : b ≠ 0) : inv (mul a b) = mul (inv a) (inv b) := by
  symm
  refine inv_unique (mul a b) _ (mul_lt ha b) (mul_lt (inv_lt a) _) (mul_ne ha hb h1 h2) ?_
  rw [mul_assoc a b _ ha hb, ← mul_assoc b (inv a) _ hb (inv_lt a), mul_comm b (inv a) hb (inv_lt a), mul_assoc (inv a) b _ (inv_lt a) hb, mul_inv b hb h2, mul_one, mul_inv a ha h1]
def bas (xs : List Nat) (i x : Nat) : Nat → Nat
  | 0 => 1
  | k + 1 => if k = i then bas xs i x k else mul (bas xs i x k) (mul (x ^^^ nth xs k) (inv (nth xs i ^^^ nth xs k)))
theorem bas_lt (xs : List Nat) (i x : Nat) : ∀ k, bas xs i x k < 256
  | 0 => by show 1 < 256; decide
  | k + 1 => by
    unfold bas
    split
    · exact bas_lt xs i x k
    · exact mul_lt (bas_lt xs i x k) _
theorem mul4 (a b c d : Nat) (ha : a < 256) (hb : b < 256) (hc : c < 256) : mul (mul a b) (mul c d) = mul (mul a c) (mul b d) := by
  rw [mul_assoc a b _ ha hb, ← mul_assoc b c d hb hc, mul_comm b c hb hc, mul_assoc c b d hc hb, ← mul_assoc a c _ ha hc]
theorem inv_one : inv 1 = 1 := by decide +kernel
theorem bas_eq (xs : List Nat) (hx : Bytes xs) (hn : xs.Nodup) (i x : Nat) (hi : i < xs.length) (hx' : x < 256) : ∀ k, k ≤ xs.length → bas xs i x k = mul (prodAt xs i x k) (inv (prodAt xs i (nth xs i) k))
  | 0, _ => by show 1 = mul 1 (inv 1); rw [inv_one, mul_one]
  | k + 1, hk => by
    have ih := bas_eq xs hx hn i x hi hx' k (by omega)
    unfold bas prodAt
    by_cases e : k = i
    · rw [if_pos e, if_pos e, if_pos e]; exact ih
    · rw [if_neg e, if_neg e, if_neg e, ih]
      have h1 := prodAt_ne xs hx hn i hi k (by omega)
      have h2 : nth xs i ^^^ nth xs k ≠ 0 := xor_ne fun h' => e (nth_inj xs hn (by omega) hi h'.symm)
      rw [inv_mul_of _ _ (prodAt_lt _ _ _ _) (xlt (hx i) (hx k)) h1 h2]
      exact mul4 _ _ _ _ (prodAt_lt _ _ _ _) (inv_lt _) (xlt hx' (hx k))
theorem bas_share (xs : List Nat) (hx : Bytes xs) (hn : xs.Nodup) (i x : Nat) (hi : i < xs.length) (hx' : x < 256) : bas xs i x xs.length = shareOf xs i x := bas_eq xs hx hn i x hi hx' _ (Nat.le_refl _)
end Gf
namespace Lin
abbrev F := Fin 256
def ad (a b : F) : F := ⟨a.1 ^^^ b.1, Gf.xlt a.2 b.2⟩
def mu (a b : F) : F := ⟨Gf.mul a.1 b.1, Gf.mul_lt a.2 _⟩
def iv (a : F) : F := ⟨Gf.inv a.1, Gf.inv_lt _⟩
theorem ad_comm (a b : F) : ad a b = ad b a := Fin.ext (Nat.xor_comm _ _)
theorem ad_assoc (a b c : F) : ad (ad a b) c = ad a (ad b c) := Fin.ext (Nat.xor_assoc _ _ _)
theorem ad_zero (a : F) : ad a 0 = a := Fin.ext (Nat.xor_zero _)
theorem zero_ad (a : F) : ad 0 a = a := Fin.ext (Nat.zero_xor _)
theorem ad_self (a : F) : ad a a = 0 := Fin.ext (Nat.xor_self _)
theorem eq_of_ad {a b : F} (h : ad a b = 0) : a = b := Fin.ext (Gf.eq_of_xor (congrArg Fin.val h))
theorem ad_left_comm (a b c : F) : ad a (ad b c) = ad b (ad a c) := by rw [← ad_assoc, ad_comm a b, ad_assoc]
theorem ad_four (a b c d : F) : ad (ad a b) (ad c d) = ad (ad a c) (ad b d) := by rw [ad_assoc, ad_left_comm b c d, ← ad_assoc]
theorem ad_cancel (a b : F) : ad a (ad a b) = b := by rw [← ad_assoc, ad_self, zero_ad]
theorem mu_comm (a b : F) : mu a b = mu b a := Fin.ext (Gf.mul_comm _ _ a.2 b.2)
theorem mu_assoc (a b c : F) : mu (mu a b) c = mu a (mu b c) := Fin.ext (Gf.mul_assoc _ _ _ a.2 b.2)
theorem mu_ad (a b c : F) : mu a (ad b c) = ad (mu a b) (mu a c) := Fin.ext (Gf.mul_right _ _ _)
theorem ad_mu (a b c : F) : mu (ad a b) c = ad (mu a c) (mu b c) := Fin.ext (Gf.mul_left _ _ _ a.2 b.2)
theorem mu_zero (a : F) : mu a 0 = 0 := Fin.ext (Gf.mul_zero a.1)
theorem zero_mu (a : F) : mu 0 a = 0 := Fin.ext (Gf.zero_mul a.1)
theorem mu_one (a : F) : mu a 1 = a := Fin.ext (Gf.mul_one a.1)
theorem one_mu (a : F) : mu 1 a = a := by rw [mu_comm, mu_one]
theorem mu_iv (a : F) (h : a ≠ 0) : mu a (iv a) = 1 := Fin.ext (Gf.mul_inv a.1 a.2 (fun e => h (Fin.ext e)))
theorem iv_mu (a : F) (h : a ≠ 0) : mu (iv a) a = 1 := by rw [mu_comm, mu_iv a h]
theorem one_ne : (1 : F) ≠ 0 := by decide
theorem mu_ne {a b : F} (h1 : a ≠ 0) (h2 : b ≠ 0) : mu a b ≠ 0 := fun h => h1 (by
  have : mu (mu a b) (iv b) = a := by rw [mu_assoc, mu_iv b h2, mu_one]
  rw [h, zero_mu] at this
  exact this.symm)
/-- Sums. -/
def fsum : Nat → (Nat → F) → F
  | 0, _ => 0
  | k + 1, f => ad (fsum k f) (f k)
theorem fsum_congr {f g : Nat → F} : ∀ {k : Nat}, (∀ i, i < k → f i = g i) → fsum k f = fsum k g
  | 0, _ => rfl
  | k + 1, h => by show ad _ _ = ad _ _; rw [fsum_congr (fun i hi => h i (by omega)), h k (by omega)]
theorem fsum_zero {f : Nat → F} : ∀ {k : Nat}, (∀ i, i < k → f i = 0) → fsum k f = 0
  | 0, _ => rfl
  | k + 1, h => by show ad _ _ = 0; rw [fsum_zero (fun i hi => h i (by omega)), h k (by omega), ad_zero]
theorem fsum_ad (f g : Nat → F) : ∀ k, fsum k (fun i => ad (f i) (g i)) = ad (fsum k f) (fsum k g)
  | 0 => (ad_zero 0).symm
  | k + 1 => by show ad _ _ = ad (ad _ _) (ad _ _); rw [fsum_ad f g k, ad_four]
theorem fsum_mu (c : F) (f : Nat → F) : ∀ k, fsum k (fun i => mu c (f i)) = mu c (fsum k f)
  | 0 => (mu_zero c).symm
  | k + 1 => by show ad _ _ = mu c (ad _ _); rw [fsum_mu c f k, mu_ad]
theorem fsum_mu_right (c : F) (f : Nat → F) (k : Nat) : fsum k (fun i => mu (f i) c) = mu (fsum k f) c := by
  rw [mu_comm, ← fsum_mu]
  exact fsum_congr fun i _ => mu_comm _ _
theorem fsum_swap (f : Nat → Nat → F) (l : Nat) : ∀ k, fsum k (fun i => fsum l (fun j => f i j)) = fsum l (fun j => fsum k (fun i => f i j))
  | 0 => (fsum_zero fun _ _ => rfl).symm
  | k + 1 => by
    show ad (fsum k _) (fsum l _) = _
    rw [fsum_swap f l k, ← fsum_ad]
    rfl
theorem fsum_one (p : Nat) (f : Nat → F) : ∀ k, p < k → (∀ i, i < k → i ≠ p → f i = 0) → fsum k f = f p
  | 0, h, _ => absurd h (Nat.not_lt_zero _)
  | k + 1, h, hz => by
    show ad (fsum k f) (f k) = f p
    by_cases e : p = k
    · subst e
      rw [fsum_zero (fun i hi => hz i (by omega) (by omega)), zero_ad]
    · rw [fsum_one p f k (by omega) (fun i hi => hz i (by omega)), hz k (by omega) (fun e' => e e'.symm), ad_zero]
/-- All but one. -/
def skip (p i : Nat) : Nat := if i < p then i else i + 1
theorem skip_ne (p i : Nat) : skip p i ≠ p := by unfold skip; split <;> omega
theorem skip_lt {p i k : Nat} (h : i < k) : skip p i < k + 1 := by unfold skip; split <;> omega
theorem fsum_skip (p : Nat) (f : Nat → F) : ∀ k, p < k + 1 → fsum (k + 1) f = ad (f p) (fsum k (fun i => f (skip p i)))
  | 0, h => by
    obtain rfl : p = 0 := by omega
    show ad 0 (f 0) = ad (f 0) 0
    rw [zero_ad, ad_zero]
  | k + 1, h => by
    by_cases e : p = k + 1
    · subst e
      show ad (fsum (k + 1) f) (f (k + 1)) = _
      rw [ad_comm]
      congr 1
      exact fsum_congr fun i hi => by unfold skip; rw [if_pos hi]
    · show ad (fsum (k + 1) f) (f (k + 1)) = ad (f p) (ad (fsum k fun i => f (skip p i)) (f (skip p k)))
      rw [fsum_skip p f k (by omega), show skip p k = k + 1 from by unfold skip; rw [if_neg (by omega)], ad_assoc]
/-- More unknowns than equations: not only zeros. -/
theorem homog : ∀ (s r : Nat), s < r → ∀ a : Nat → Nat → F, ∃ c : Nat → F, (∃ i, i < r ∧ c i ≠ 0) ∧ ∀ j, j < s → fsum r (fun i => mu (c i) (a i j)) = 0
  | 0, r, h, _ => ⟨fun _ => 1, ⟨0, h, one_ne⟩, fun j hj => absurd hj (Nat.not_lt_zero _)⟩
  | s + 1, r, h, a => by
    by_cases hp : ∃ p, p < r ∧ a p s ≠ 0
    · obtain ⟨p, hpr, hps⟩ := hp
      obtain ⟨k, rfl⟩ : ∃ k, r = k + 1 := ⟨r - 1, by omega⟩
      obtain ⟨c, ⟨i0, hi0, hc0⟩, hc⟩ := homog s k (by omega) (fun i j => ad (a (skip p i) j) (mu (mu (a (skip p i) s) (iv (a p s))) (a p j)))
      let cp : F := fsum k (fun i => mu (c i) (mu (a (skip p i) s) (iv (a p s))))
      let d : Nat → F := fun i => if i = p then cp else c (if i < p then i else i - 1)
      have dp : d p = cp := if_pos rfl
      have ds : ∀ i, d (skip p i) = c i := by
        intro i
        show (if skip p i = p then cp else _) = _
        rw [if_neg (skip_ne p i)]
        congr 1
        by_cases hip : i < p
        · rw [show skip p i = i from if_pos hip, if_pos hip]
        · rw [show skip p i = i + 1 from if_neg hip, if_neg (by omega)]; omega
      have key : ∀ j, fsum (k + 1) (fun i => mu (d i) (a i j)) = fsum k (fun i => mu (c i) (ad (a (skip p i) j) (mu (mu (a (skip p i) s) (iv (a p s))) (a p j)))) := by
        intro j
        rw [fsum_skip p _ k hpr, dp]
        have e1 : fsum k (fun i => mu (d (skip p i)) (a (skip p i) j)) = fsum k (fun i => mu (c i) (a (skip p i) j)) := fsum_congr fun i _ => by rw [ds i]
        have e2 : mu cp (a p j) = fsum k (fun i => mu (c i) (mu (mu (a (skip p i) s) (iv (a p s))) (a p j))) := by
          show mu (fsum k _) (a p j) = _
          rw [← fsum_mu_right]
          exact fsum_congr fun i _ => by rw [mu_assoc, mu_assoc]
        rw [e1, e2, ad_comm, ← fsum_ad]
        exact fsum_congr fun i _ => by rw [mu_ad]
      refine ⟨d, ⟨skip p i0, skip_lt hi0, by rw [ds i0]; exact hc0⟩, fun j hj => ?_⟩
      rw [key j]
      by_cases e : j = s
      · subst e
        refine fsum_zero fun i _ => ?_
        rw [mu_assoc (a (skip p i) j), iv_mu _ hps, mu_one, ad_self, mu_zero]
      · exact hc j (by omega)
    · obtain ⟨c, hc0, hc⟩ := homog s r (by omega) a
      refine ⟨c, hc0, fun j hj => ?_⟩
      by_cases e : j = s
      · subst e
        refine fsum_zero fun i hi => ?_
        have : a i j = 0 := Classical.byContradiction fun h' => hp ⟨i, hi, h'⟩
        rw [this, mu_zero]
      · exact hc j (by omega)
/-- u comes from v's first k. -/
def InSpan (n k : Nat) (v : Nat → Nat → F) (u : Nat → F) : Prop := ∃ c : Nat → F, ∀ j, j < n → u j = fsum k (fun i => mu (c i) (v i j))
/-- None of v's first k comes from the others. -/
def Indep (n k : Nat) (v : Nat → Nat → F) : Prop := ∀ c : Nat → F, (∀ j, j < n → fsum k (fun i => mu (c i) (v i j)) = 0) → ∀ i, i < k → c i = 0
theorem choose_coefs {n r s : Nat} {u v : Nat → Nat → F} (h : ∀ i, i < r → InSpan n s v (u i)) : ∃ a : Nat → Nat → F, ∀ i, i < r → ∀ j, j < n → u i j = fsum s (fun l => mu (a i l) (v l j)) := by
  have h' : ∀ i, ∃ c : Nat → F, i < r → ∀ j, j < n → u i j = fsum s (fun l => mu (c l) (v l j)) := fun i => by
    by_cases hi : i < r
    · obtain ⟨c, hc⟩ := h i hi
      exact ⟨c, fun _ => hc⟩
    · exact ⟨fun _ => 0, fun h => absurd h hi⟩
  exact ⟨fun i => Classical.choose (h' i), fun i hi => Classical.choose_spec (h' i) hi⟩
/-- STEINITZ. -/
theorem steinitz {n r s : Nat} {u v : Nat → Nat → F} (hu : Indep n r u) (h : ∀ i, i < r → InSpan n s v (u i)) : r ≤ s := by
  refine Classical.byContradiction fun hrs => ?_
  obtain ⟨a, ha⟩ := choose_coefs h
  obtain ⟨c, ⟨i0, hi0, hc0⟩, hc⟩ := homog s r (by omega) a
  refine hc0 (hu c (fun j hj => ?_) i0 hi0)
  have e1 : fsum r (fun i => mu (c i) (u i j)) = fsum r (fun i => fsum s (fun l => mu (mu (c i) (a i l)) (v l j))) := fsum_congr fun i hi => by
    rw [ha i hi j hj, ← fsum_mu]
    exact fsum_congr fun l _ => (mu_assoc _ _ _).symm
  rw [e1, fsum_swap]
  refine fsum_zero fun l hl => ?_
  rw [fsum_mu_right, hc l hl, zero_mu]
/-- Leads that go down by steps: independent. -/
theorem indep_of_leads {n k : Nat} {v : Nat → Nat → F} (at_ : Nat → Nat) (hn : ∀ i, i < k → at_ i < n) (h1 : ∀ i, i < k → v i (at_ i) ≠ 0) (h0 : ∀ i j, i < j → j < k → v j (at_ i) = 0) : Indep n k v := by
  intro c hc
  have key : ∀ m, ∀ i, i < m → i < k → c i = 0 := by
    intro m
    induction m with
    | zero => intro i hi; exact absurd hi (Nat.not_lt_zero _)
    | succ m ih =>
      intro i hi hik
      by_cases e : i < m
      · exact ih i e hik
      · obtain rfl : i = m := by omega
        have hz := hc (at_ i) (hn i hik)
        rw [fsum_one i _ k hik] at hz
        · refine Classical.byContradiction fun h => mu_ne h (h1 i hik) hz
        · intro j hj hji
          by_cases hlt : j < i
          · rw [ih j hlt hj, zero_mu]
          · rw [h0 i j (by omega) hj, mu_zero]
  exact fun i hi => key k i hi hi
/-- r is the rank of v's first k. -/
def IsRank (n k : Nat) (v : Nat → Nat → F) (r : Nat) : Prop := ∃ b : Nat → Nat → F, Indep n r b ∧ (∀ i, i < r → InSpan n k v (b i)) ∧ ∀ i, i < k → InSpan n r b (v i)
theorem span_trans {n k l : Nat} {v w : Nat → Nat → F} {u : Nat → F} (h1 : InSpan n k v u) (h2 : ∀ i, i < k → InSpan n l w (v i)) : InSpan n l w u := by
  obtain ⟨c, hc⟩ := h1
  obtain ⟨a, ha⟩ := choose_coefs h2
  refine ⟨fun m => fsum k (fun i => mu (c i) (a i m)), fun j hj => ?_⟩
  rw [hc j hj]
  have e1 : fsum k (fun i => mu (c i) (v i j)) = fsum k (fun i => fsum l (fun m => mu (mu (c i) (a i m)) (w m j))) := fsum_congr fun i hi => by
    rw [ha i hi j hj, ← fsum_mu]
    exact fsum_congr fun m _ => (mu_assoc _ _ _).symm
  rw [e1, fsum_swap]
  exact fsum_congr fun m _ => fsum_mu_right _ _ _
theorem span_self {n k : Nat} (v : Nat → Nat → F) {i : Nat} (hi : i < k) : InSpan n k v (v i) :=
  ⟨fun j => if j = i then 1 else 0, fun j _ => by
    rw [fsum_one i _ k hi]
    · show v i j = mu (if i = i then 1 else 0) (v i j); rw [if_pos rfl, one_mu]
    · intro l _ hli; show mu (if l = i then 1 else 0) (v l j) = 0; rw [if_neg hli, zero_mu]⟩
theorem span_mono {n k l : Nat} {v : Nat → Nat → F} {u : Nat → F} (h : InSpan n k v u) (hkl : k ≤ l) : InSpan n l v u :=
  span_trans h fun _ hi => span_self v (by omega)
theorem span_zero (n k : Nat) (v : Nat → Nat → F) : InSpan n k v (fun _ => 0) := ⟨fun _ => 0, fun _ _ => (fsum_zero fun _ _ => zero_mu _).symm⟩
theorem span_ad {n k : Nat} {v : Nat → Nat → F} {x y : Nat → F} (hx : InSpan n k v x) (hy : InSpan n k v y) : InSpan n k v (fun j => ad (x j) (y j)) := by
  obtain ⟨c, hc⟩ := hx
  obtain ⟨d, hd⟩ := hy
  refine ⟨fun i => ad (c i) (d i), fun j hj => ?_⟩
  show ad (x j) (y j) = _
  rw [hc j hj, hd j hj, ← fsum_ad]
  exact fsum_congr fun i _ => (ad_mu _ _ _).symm
theorem span_mu {n k : Nat} {v : Nat → Nat → F} {x : Nat → F} (hx : InSpan n k v x) (a : F) : InSpan n k v (fun j => mu a (x j)) := by
  obtain ⟨c, hc⟩ := hx
  refine ⟨fun i => mu a (c i), fun j hj => ?_⟩
  show mu a (x j) = _
  rw [hc j hj, ← fsum_mu]
  exact fsum_congr fun i _ => (mu_assoc _ _ _).symm
theorem span_congr {n k : Nat} {v w : Nat → Nat → F} {x y : Nat → F} (h : InSpan n k v x) (hv : ∀ i, i < k → ∀ j, j < n → v i j = w i j) (hx : ∀ j, j < n → x j = y j) : InSpan n k w y := by
  obtain ⟨c, hc⟩ := h
  exact ⟨c, fun j hj => by rw [← hx j hj, hc j hj]; exact fsum_congr fun i hi => by rw [hv i hi j hj]⟩
/-- There is but one rank. -/
theorem rank_unique {n k r s : Nat} {v : Nat → Nat → F} (hr : IsRank n k v r) (hs : IsRank n k v s) : r = s := by
  obtain ⟨b, hb1, hb2, hb3⟩ := hr
  obtain ⟨d, hd1, hd2, hd3⟩ := hs
  exact Nat.le_antisymm (steinitz hb1 fun i hi => span_trans (hb2 i hi) hd3) (steinitz hd1 fun i hi => span_trans (hd2 i hi) hb3)
/-- Products of matrices. -/
def mm (n : Nat) (a b : Nat → Nat → F) : Nat → Nat → F := fun i j => fsum n (fun k => mu (a i k) (b k j))
def one : Nat → Nat → F := fun i j => if i = j then 1 else 0
theorem mm_assoc (n l : Nat) (a b c : Nat → Nat → F) (i j : Nat) : mm l (mm n a b) c i j = mm n a (mm l b c) i j := by
  show fsum l (fun m => mu (fsum n (fun k => mu (a i k) (b k m))) (c m j)) = fsum n (fun k => mu (a i k) (fsum l (fun m => mu (b k m) (c m j))))
  have e1 : fsum l (fun m => mu (fsum n (fun k => mu (a i k) (b k m))) (c m j)) = fsum l (fun m => fsum n (fun k => mu (mu (a i k) (b k m)) (c m j))) := fsum_congr fun m _ => (fsum_mu_right _ _ _).symm
  have e2 : fsum n (fun k => mu (a i k) (fsum l (fun m => mu (b k m) (c m j)))) = fsum n (fun k => fsum l (fun m => mu (mu (a i k) (b k m)) (c m j))) := fsum_congr fun k _ => by
    rw [← fsum_mu]
    exact fsum_congr fun m _ => (mu_assoc _ _ _).symm
  rw [e1, e2, fsum_swap]
theorem mm_one (n : Nat) (a : Nat → Nat → F) (i j : Nat) (hj : j < n) : mm n a one i j = a i j := by
  show fsum n (fun k => mu (a i k) (one k j)) = _
  rw [fsum_one j _ n hj]
  · show mu (a i j) (if j = j then 1 else 0) = _
    rw [if_pos rfl, mu_one]
  · intro k _ hk; show mu (a i k) (if k = j then 1 else 0) = 0; rw [if_neg hk, mu_zero]
theorem one_mm (n : Nat) (a : Nat → Nat → F) (i j : Nat) (hi : i < n) : mm n one a i j = a i j := by
  show fsum n (fun k => mu (one i k) (a k j)) = _
  rw [fsum_one i _ n hi]
  · show mu (if i = i then 1 else 0) (a i j) = _
    rw [if_pos rfl, one_mu]
  · intro k _ hk; show mu (if i = k then 1 else 0) (a k j) = 0; rw [if_neg (fun e => hk e.symm), zero_mu]
theorem mm_congr (n : Nat) {a b c d : Nat → Nat → F} {i j : Nat} (h1 : ∀ k, k < n → a i k = c i k) (h2 : ∀ k, k < n → b k j = d k j) : mm n a b i j = mm n c d i j := fsum_congr fun k hk => by rw [h1 k hk, h2 k hk]
/-- The unit's rows are independent, and all comes from them. -/
theorem one_indep (n : Nat) : Indep n n one := indep_of_leads (fun i => i) (fun _ h => h) (fun i _ => by show (if i = i then (1 : F) else 0) ≠ 0; rw [if_pos rfl]; exact one_ne) (fun i j hij _ => by show (if j = i then (1 : F) else 0) = 0; rw [if_neg (by omega)])
theorem all_in_one (n : Nat) (u : Nat → F) : InSpan n n one u := ⟨u, fun j hj => by
  rw [fsum_one j _ n hj]
  · show u j = mu (u j) (if j = j then 1 else 0); rw [if_pos rfl, mu_one]
  · intro k _ hk; show mu (u k) (if k = j then 1 else 0) = 0; rw [if_neg hk, mu_zero]⟩
/-- n that are independent among vectors of n: all comes from them. -/
theorem span_of_indep {n : Nat} {v : Nat → Nat → F} (hv : Indep n n v) (u : Nat → F) : InSpan n n v u := by
  obtain ⟨c, ⟨i0, hi0, hc0⟩, hc⟩ := homog n (n + 1) (by omega) (fun i => if i < n then v i else u)
  have hsum : ∀ j, j < n → ad (fsum n (fun i => mu (c i) (v i j))) (mu (c n) (u j)) = 0 := by
    intro j hj
    have h := hc j hj
    have e : fsum (n + 1) (fun i => mu (c i) ((if i < n then v i else u) j)) = ad (fsum n (fun i => mu (c i) (v i j))) (mu (c n) (u j)) := by
      show ad (fsum n _) (mu (c n) ((if n < n then v n else u) j)) = _
      rw [if_neg (Nat.lt_irrefl n)]
      congr 1
      exact fsum_congr fun i hi => by rw [if_pos hi]
    rw [e] at h
    exact h
  by_cases hn : c n = 0
  · exfalso
    refine hc0 ?_
    have hz := hv c (fun j hj => by have := hsum j hj; rw [hn, zero_mu, ad_zero] at this; exact this)
    by_cases e : i0 < n
    · exact hz i0 e
    · obtain rfl : i0 = n := by omega
      exact hn
  · refine ⟨fun i => mu (iv (c n)) (c i), fun j hj => ?_⟩
    have h1 := eq_of_ad (hsum j hj)
    have h2 : fsum n (fun i => mu (mu (iv (c n)) (c i)) (v i j)) = mu (iv (c n)) (fsum n (fun i => mu (c i) (v i j))) := by
      rw [← fsum_mu]
      exact fsum_congr fun i _ => mu_assoc _ _ _
    rw [h2, h1, ← mu_assoc, iv_mu _ hn, one_mu]
/-- A left inverse's rows come from nothing less: m's rows are independent. -/
theorem indep_of_left {n : Nat} {x m : Nat → Nat → F} (h : ∀ i j, i < n → j < n → mm n x m i j = one i j) : Indep n n m := by
  intro c hc
  refine Classical.byContradiction fun hne => ?_
  have ⟨p, hp⟩ : ∃ p, p < n ∧ c p ≠ 0 := Classical.byContradiction fun h' => hne fun i hi => Classical.byContradiction fun h'' => h' ⟨i, hi, h''⟩
  obtain ⟨hpn, hcp⟩ := hp
  obtain ⟨k, rfl⟩ : ∃ k, n = k + 1 := ⟨n - 1, by omega⟩
  have hspan : ∀ i, i < k + 1 → InSpan (k + 1) k (fun i => m (skip p i)) (one i) := by
    intro i hi
    refine ⟨fun l => ad (x i (skip p l)) (mu (x i p) (mu (iv (c p)) (c (skip p l)))), fun j hj => ?_⟩
    have h1 := h i j hi hj
    rw [← h1]
    show fsum (k + 1) (fun l => mu (x i l) (m l j)) = _
    rw [fsum_skip p _ k hpn]
    have h2 := hc j hj
    rw [fsum_skip p _ k hpn] at h2
    have h3 : m p j = mu (iv (c p)) (fsum k (fun l => mu (c (skip p l)) (m (skip p l) j))) := by
      rw [← eq_of_ad h2, ← mu_assoc, iv_mu _ hcp, one_mu]
    have h4 : fsum k (fun l => mu (ad (x i (skip p l)) (mu (x i p) (mu (iv (c p)) (c (skip p l))))) (m (skip p l) j)) = ad (fsum k (fun l => mu (x i (skip p l)) (m (skip p l) j))) (mu (x i p) (mu (iv (c p)) (fsum k (fun l => mu (c (skip p l)) (m (skip p l) j))))) := by
      rw [← fsum_mu, ← fsum_mu, ← fsum_ad]
      exact fsum_congr fun l _ => by rw [ad_mu, mu_assoc, mu_assoc]
    rw [h4, ← h3, ad_comm]
  have := steinitz (one_indep (k + 1)) hspan
  omega
/-- A left inverse of a square matrix is a right one. -/
theorem right_of_left {n : Nat} {x m : Nat → Nat → F} (h : ∀ i j, i < n → j < n → mm n x m i j = one i j) : ∀ i j, i < n → j < n → mm n m x i j = one i j := by
  have hi := indep_of_left h
  intro i j hin hjn
  have key := hi (fun k => ad (mm n m x i k) (one i k)) (fun l hl => by
    have e1 : fsum n (fun k => mu (ad (mm n m x i k) (one i k)) (m k l)) = ad (mm n (mm n m x) m i l) (mm n one m i l) := by
      show _ = ad (fsum n _) (fsum n _)
      rw [← fsum_ad]
      exact fsum_congr fun k _ => ad_mu _ _ _
    have e2 : mm n (mm n m x) m i l = m i l := by
      rw [mm_assoc]
      show fsum n (fun k => mu (m i k) (mm n x m k l)) = _
      rw [fsum_congr (g := fun k => mu (m i k) (one k l)) fun k hk => by rw [h k l hk hl]]
      exact mm_one n m i l hl
    rw [e1, e2, one_mm n m i l hin, ad_self]) j hjn
  exact eq_of_ad key
/-- n independent rows of n: there is an inverse. -/
theorem inverse_of_indep {n : Nat} {m : Nat → Nat → F} (h : Indep n n m) : ∃ x : Nat → Nat → F, ∀ i j, i < n → j < n → mm n x m i j = one i j := by
  obtain ⟨x, hx⟩ := choose_coefs (r := n) (u := one) fun i _ => span_of_indep h (one i)
  exact ⟨x, fun i j hi hj => (hx i hi j hj).symm⟩
end Lin
/-- The bytes f 0, .., f (n - 1). -/
def rowFn (n : Nat) (f : Nat → Nat) : List Nat := (List.range n).map f
theorem rowFn_length (n : Nat) (f : Nat → Nat) : (rowFn n f).length = n := by simp [rowFn]
theorem nth_rowFn (n : Nat) (f : Nat → Nat) (j : Nat) (h : j < n) : Gf.nth (rowFn n f) j = f j := by
  rw [Gf.nth_getElem _ _ (by rw [rowFn_length]; exact h)]; simp [rowFn]
theorem rowFn_bytes (n : Nat) (f : Nat → Nat) (h : ∀ j, f j < 256) : Gf.Bytes (rowFn n f) := fun i => by
  by_cases hi : i < n
  · rw [nth_rowFn n f i hi]; exact h i
  · unfold Gf.nth; rw [List.getD_eq_getElem?_getD, List.getElem?_eq_none (by rw [rowFn_length]; omega)]; decide
theorem rowFn_congr (n : Nat) (f g : Nat → Nat) (h : ∀ j, j < n → f j = g j) : rowFn n f = rowFn n g := by
  unfold rowFn
  exact List.map_congr_left fun j hj => h j (List.mem_range.1 hj)
theorem rowFn_set (n : Nat) (f : Nat → Nat) (j v : Nat) : (rowFn n f).set j v = rowFn n (fun i => if i = j then v else f i) := by
  apply List.ext_getElem
  · simp [rowFn]
  · intro i h1 h2
    rw [List.getElem_set]
    simp only [rowFn, List.getElem_map, List.getElem_range]
    by_cases e : j = i
    · rw [if_pos e, if_pos e.symm]
    · rw [if_neg e, if_neg (fun e' => e e'.symm)]
theorem rowFn_nth (l : List Nat) (n : Nat) (h : l.length = n) : rowFn n (Gf.nth l) = l := by
  subst h
  apply List.ext_getElem
  · simp [rowFn]
  · intro i h1 h2
    simp only [rowFn, List.getElem_map, List.getElem_range]
    exact Gf.nth_getElem l i h2
/-- Row i of a list of rows (none behind its end). -/
def rowOf (M : List (List Nat)) (i : Nat) : List Nat := M.getD i []
theorem rowOf_append_lt (M : List (List Nat)) (r : List Nat) (i : Nat) (h : i < M.length) : rowOf (M ++ [r]) i = rowOf M i := by
  unfold rowOf; rw [List.getD_eq_getElem?_getD, List.getD_eq_getElem?_getD, List.getElem?_append_left h]
theorem rowOf_append_eq (M : List (List Nat)) (r : List Nat) : rowOf (M ++ [r]) M.length = r := by
  unfold rowOf; rw [List.getD_eq_getElem?_getD, List.getElem?_append_right (Nat.le_refl _)]; simp
/-- The first place that is not 0 (the length: none). -/
def leadIdx : List Nat → Nat
  | [] => 0
  | c :: r => if c = 0 then leadIdx r + 1 else 0
theorem leadIdx_le : ∀ l, leadIdx l ≤ l.length
  | [] => Nat.le_refl _
  | c :: r => by
    unfold leadIdx
    split
    · have := leadIdx_le r; simp; omega
    · simp
theorem leadIdx_zero : ∀ (l : List Nat) (i : Nat), i < leadIdx l → Gf.nth l i = 0
  | [], i, h => absurd h (Nat.not_lt_zero _)
  | c :: r, i, h => by
    unfold leadIdx at h
    by_cases e : c = 0
    · rw [if_pos e] at h
      cases i with
      | zero => simpa [Gf.nth] using e
      | succ i =>
        have := leadIdx_zero r i (by omega)
        simpa [Gf.nth] using this
    · rw [if_neg e] at h; exact absurd h (Nat.not_lt_zero _)
theorem leadIdx_ne : ∀ l : List Nat, leadIdx l < l.length → Gf.nth l (leadIdx l) ≠ 0
  | [], h => absurd h (Nat.lt_irrefl _)
  | c :: r, h => by
    unfold leadIdx at h ⊢
    by_cases e : c = 0
    · rw [if_pos e] at h ⊢
      have := leadIdx_ne r (by simpa using h)
      simpa [Gf.nth] using this
    · rw [if_neg e]; simpa [Gf.nth] using e
/-- A row less its part of kr. -/
def redStep (n : Nat) (row kr : List Nat) : List Nat := rowFn n fun j => Gf.nth row j ^^^ Gf.mul (Gf.mul (Gf.nth row (leadIdx kr)) (Gf.inv (Gf.nth kr (leadIdx kr)))) (Gf.nth kr j)
def redTo (n : Nat) (row : List Nat) (K : List (List Nat)) : Nat → List Nat
  | 0 => row
  | k + 1 => redStep n (redTo n row K k) (rowOf K k)
/-- The rows that do not come from those ahead. -/
def keptOf (n : Nat) (M : List (List Nat)) : Nat → List (List Nat)
  | 0 => []
  | i + 1 => if leadIdx (redTo n (rowOf M i) (keptOf n M i) (keptOf n M i).length) < n then keptOf n M i ++ [redTo n (rowOf M i) (keptOf n M i) (keptOf n M i).length] else keptOf n M i
theorem redTo_length (n : Nat) (row : List Nat) (K : List (List Nat)) (h : row.length = n) : ∀ k, (redTo n row K k).length = n
  | 0 => h
  | _ + 1 => rowFn_length _ _
theorem redStep_bytes (n : Nat) (row kr : List Nat) (h : Gf.Bytes row) : Gf.Bytes (redStep n row kr) := rowFn_bytes _ _ fun j => Gf.xlt (h j) (Gf.mul_lt (Gf.mul_lt (h _) _) _)
theorem redTo_bytes (n : Nat) (row : List Nat) (K : List (List Nat)) (h : Gf.Bytes row) : ∀ k, Gf.Bytes (redTo n row K k)
  | 0 => h
  | k + 1 => redStep_bytes _ _ _ (redTo_bytes n row K h k)
theorem keptOf_rows (n : Nat) (M : List (List Nat)) (hM : ∀ i, Gf.Bytes (rowOf M i)) (hl : ∀ i, i < M.length → (rowOf M i).length = n) : ∀ i, i ≤ M.length → ∀ k, k < (keptOf n M i).length → (rowOf (keptOf n M i) k).length = n ∧ Gf.Bytes (rowOf (keptOf n M i) k) ∧ leadIdx (rowOf (keptOf n M i) k) < n
  | 0, _, k, hk => absurd hk (Nat.not_lt_zero _)
  | i + 1, hi, k, hk => by
    have ih := keptOf_rows n M hM hl i (by omega)
    unfold keptOf at hk ⊢
    split
    · rename_i hlt
      rw [if_pos hlt] at hk
      by_cases e : k < (keptOf n M i).length
      · rw [rowOf_append_lt _ _ _ e]; exact ih k e
      · obtain rfl : k = (keptOf n M i).length := by simp at hk; omega
        rw [rowOf_append_eq]
        exact ⟨redTo_length n _ _ (hl i (by omega)) _, redTo_bytes n _ _ (hM i) _, hlt⟩
    · rename_i hlt
      rw [if_neg hlt] at hk
      exact ih k hk
theorem keptOf_length (n : Nat) (M : List (List Nat)) : ∀ i, (keptOf n M i).length ≤ i
  | 0 => Nat.le_refl _
  | i + 1 => by
    have := keptOf_length n M i
    unfold keptOf
    split
    · simp; omega
    · omega
/-- Rows as vectors. -/
def toF (x : Nat) : Lin.F := ⟨x % 256, Nat.mod_lt _ (by decide)⟩
theorem toF_val {x : Nat} (h : x < 256) : (toF x).1 = x := Nat.mod_eq_of_lt h
theorem toF_zero {x : Nat} (h : x < 256) : toF x = 0 ↔ x = 0 := by
  constructor
  · intro e
    have := congrArg Fin.val e
    rw [toF_val h] at this
    exact this
  · rintro rfl; rfl
theorem toF_ad {x y : Nat} (hx : x < 256) (hy : y < 256) : toF (x ^^^ y) = Lin.ad (toF x) (toF y) := by
  apply Fin.ext
  rw [toF_val (Gf.xlt hx hy)]
  show _ = (toF x).1 ^^^ (toF y).1
  rw [toF_val hx, toF_val hy]
theorem toF_mu {x y : Nat} (hx : x < 256) (hy : y < 256) : toF (Gf.mul x y) = Lin.mu (toF x) (toF y) := by
  apply Fin.ext
  rw [toF_val (Gf.mul_lt hx y)]
  show _ = Gf.mul (toF x).1 (toF y).1
  rw [toF_val hx, toF_val hy]
def vec (M : List (List Nat)) : Nat → Nat → Lin.F := fun i j => toF (Gf.nth (rowOf M i) j)
def vecOf (l : List Nat) : Nat → Lin.F := fun j => toF (Gf.nth l j)
/-- What is left of a row comes from it and from kr; and the row from what is left and from kr. -/
theorem redStep_vec (n : Nat) (row kr : List Nat) (hr : Gf.Bytes row) (hk : Gf.Bytes kr) (j : Nat) (hj : j < n) :
    vecOf (redStep n row kr) j = Lin.ad (vecOf row j) (Lin.mu (toF (Gf.mul (Gf.nth row (leadIdx kr)) (Gf.inv (Gf.nth kr (leadIdx kr))))) (vecOf kr j)) := by
  have hc := Gf.mul_lt (hr (leadIdx kr)) (Gf.inv (Gf.nth kr (leadIdx kr)))
  unfold vecOf redStep
  rw [nth_rowFn n _ j hj, toF_ad (hr j) (Gf.mul_lt hc _), toF_mu hc (hk j)]
/-- Behind the step the row is 0 where kr leads. -/
theorem redStep_lead (n : Nat) (row kr : List Nat) (hr : Gf.Bytes row) (hk : Gf.Bytes kr) (hlen : kr.length = n) (hl : leadIdx kr < n) : Gf.nth (redStep n row kr) (leadIdx kr) = 0 := by
  unfold redStep
  rw [nth_rowFn n _ _ hl]
  have hne := leadIdx_ne kr (by rw [hlen]; exact hl)
  rw [Gf.mul_assoc _ _ _ (hr _) (Gf.inv_lt _), Gf.inv_mul _ (hk _) hne, Gf.mul_one, Nat.xor_self]
/-- A place where kr is 0 stays. -/
theorem redStep_keep (n : Nat) (row kr : List Nat) (j : Nat) (hj : j < n) (hz : Gf.nth kr j = 0) : Gf.nth (redStep n row kr) j = Gf.nth row j := by
  unfold redStep
  rw [nth_rowFn n _ j hj, hz, Gf.mul_zero, Nat.xor_zero]
/-- The kept rows: each is 0 where one ahead of it leads. -/
def Stair (n : Nat) (K : List (List Nat)) : Prop := (∀ k, k < K.length → (rowOf K k).length = n ∧ Gf.Bytes (rowOf K k) ∧ leadIdx (rowOf K k) < n) ∧ ∀ a b, a < b → b < K.length → Gf.nth (rowOf K b) (leadIdx (rowOf K a)) = 0
theorem redTo_zero (n : Nat) (row : List Nat) (K : List (List Nat)) (hr : Gf.Bytes row) (hK : Stair n K) : ∀ k, k ≤ K.length → ∀ a, a < k → Gf.nth (redTo n row K k) (leadIdx (rowOf K a)) = 0
  | 0, _, a, ha => absurd ha (Nat.not_lt_zero _)
  | k + 1, hk, a, ha => by
    have hk' := hK.1 k (by omega)
    show Gf.nth (redStep n (redTo n row K k) (rowOf K k)) (leadIdx (rowOf K a)) = 0
    by_cases e : a = k
    · subst e
      exact redStep_lead n _ _ (redTo_bytes n row K hr a) hk'.2.1 hk'.1 hk'.2.2
    · rw [redStep_keep n _ _ _ (hK.1 a (by omega)).2.2 (hK.2 a k (by omega) (by omega))]
      exact redTo_zero n row K hr hK k (by omega) a (by omega)
theorem keptOf_stair (n : Nat) (M : List (List Nat)) (hM : ∀ i, Gf.Bytes (rowOf M i)) (hl : ∀ i, i < M.length → (rowOf M i).length = n) : ∀ i, i ≤ M.length → Stair n (keptOf n M i)
  | 0, _ => ⟨fun k hk => absurd hk (Nat.not_lt_zero _), fun a b _ hb => absurd hb (Nat.not_lt_zero _)⟩
  | i + 1, hi => by
    have ih := keptOf_stair n M hM hl i (by omega)
    refine ⟨keptOf_rows n M hM hl (i + 1) hi, fun a b hab hb => ?_⟩
    unfold keptOf at hb ⊢
    split
    · rename_i hlt
      rw [if_pos hlt] at hb
      rw [List.length_append, List.length_singleton] at hb
      rw [rowOf_append_lt _ _ a (by omega)]
      by_cases e : b < (keptOf n M i).length
      · rw [rowOf_append_lt _ _ b e]; exact ih.2 a b hab e
      · obtain rfl : b = (keptOf n M i).length := by omega
        rw [rowOf_append_eq]
        exact redTo_zero n _ _ (hM i) ih _ (Nat.le_refl _) a hab
    · rename_i hlt
      rw [if_neg hlt] at hb
      exact ih.2 a b hab hb
theorem stair_indep {n : Nat} {K : List (List Nat)} (h : Stair n K) : Lin.Indep n K.length (vec K) :=
  Lin.indep_of_leads (fun i => leadIdx (rowOf K i)) (fun i hi => (h.1 i hi).2.2) (fun i hi => by
    have h1 := h.1 i hi
    intro e
    exact leadIdx_ne _ (by rw [h1.1]; exact h1.2.2) ((toF_zero (h1.2.1 _)).1 e)) (fun i j hij hj => by
    show toF _ = 0
    rw [h.2 i j hij hj]
    rfl)
/-- What is left comes from the row and the kept ones; the row from what is left and the kept ones. -/
theorem redTo_spans (n : Nat) (row : List Nat) (K : List (List Nat)) (hr : Gf.Bytes row) (hK : ∀ k, k < K.length → Gf.Bytes (rowOf K k)) : ∀ k, k ≤ K.length → ∃ c : Nat → Lin.F, ∀ j, j < n → vecOf (redTo n row K k) j = Lin.ad (vecOf row j) (Lin.fsum k (fun i => Lin.mu (c i) (vec K i j)))
  | 0, _ => ⟨fun _ => 0, fun j _ => by show vecOf row j = Lin.ad _ 0; rw [Lin.ad_zero]⟩
  | k + 1, hk => by
    obtain ⟨c, hc⟩ := redTo_spans n row K hr hK k (by omega)
    let x : Lin.F := toF (Gf.mul (Gf.nth (redTo n row K k) (leadIdx (rowOf K k))) (Gf.inv (Gf.nth (rowOf K k) (leadIdx (rowOf K k)))))
    refine ⟨fun i => if i = k then x else c i, fun j hj => ?_⟩
    show vecOf (redStep n (redTo n row K k) (rowOf K k)) j = _
    rw [redStep_vec n _ _ (redTo_bytes n row K hr k) (hK k (by omega)) j hj, hc j hj, Lin.ad_assoc]
    congr 1
    show Lin.ad (Lin.fsum k _) (Lin.mu x (vec K k j)) = Lin.ad (Lin.fsum k _) (Lin.mu (if k = k then x else c k) (vec K k j))
    rw [if_pos rfl]
    congr 1
    exact Lin.fsum_congr fun i hi => by show Lin.mu (c i) _ = Lin.mu (if i = k then x else c i) _; rw [if_neg (by omega)]
theorem vec_append_lt (K : List (List Nat)) (r : List Nat) (i : Nat) (h : i < K.length) : vec (K ++ [r]) i = vec K i := by
  funext j; unfold vec; rw [rowOf_append_lt K r i h]
theorem vec_append_eq (K : List (List Nat)) (r : List Nat) : vec (K ++ [r]) K.length = vecOf r := by
  funext j; unfold vec vecOf; rw [rowOf_append_eq]
/-- The kept rows of the first i: a basis of what comes from the first i. -/
theorem keptOf_basis (n : Nat) (M : List (List Nat)) (hM : ∀ i, Gf.Bytes (rowOf M i)) (hl : ∀ i, i < M.length → (rowOf M i).length = n) : ∀ i, i ≤ M.length → (∀ k, k < (keptOf n M i).length → Lin.InSpan n i (vec M) (vec (keptOf n M i) k)) ∧ ∀ k, k < i → Lin.InSpan n (keptOf n M i).length (vec (keptOf n M i)) (vec M k)
  | 0, _ => ⟨fun k hk => absurd hk (Nat.not_lt_zero _), fun k hk => absurd hk (Nat.not_lt_zero _)⟩
  | i + 1, hi => by
    obtain ⟨ih1, ih2⟩ := keptOf_basis n M hM hl i (by omega)
    have hst := keptOf_stair n M hM hl i (by omega)
    obtain ⟨c, hc⟩ := redTo_spans n (rowOf M i) (keptOf n M i) (hM i) (fun k hk => (hst.1 k hk).2.1) (keptOf n M i).length (Nat.le_refl _)
    have hrM : Lin.InSpan n (i + 1) (vec M) (vecOf (redTo n (rowOf M i) (keptOf n M i) (keptOf n M i).length)) := by
      have s1 : Lin.InSpan n (i + 1) (vec M) (vec M i) := Lin.span_self (vec M) (by omega)
      have s2 : Lin.InSpan n (i + 1) (vec M) (fun j => Lin.fsum (keptOf n M i).length (fun l => Lin.mu (c l) (vec (keptOf n M i) l j))) :=
        Lin.span_trans (v := vec (keptOf n M i)) (k := (keptOf n M i).length) ⟨c, fun j _ => rfl⟩ fun l hl' => Lin.span_mono (ih1 l hl') (by omega)
      exact Lin.span_congr (Lin.span_ad s1 s2) (fun _ _ _ _ => rfl) fun j hj => (hc j hj).symm
    unfold keptOf
    split
    · rename_i hlt
      refine ⟨fun k hk => ?_, fun k hk => ?_⟩
      · rw [List.length_append, List.length_singleton] at hk
        by_cases e : k < (keptOf n M i).length
        · rw [vec_append_lt _ _ k e]; exact Lin.span_mono (ih1 k e) (by omega)
        · obtain rfl : k = (keptOf n M i).length := by omega
          rw [vec_append_eq]; exact hrM
      · rw [List.length_append, List.length_singleton]
        have up : ∀ u, Lin.InSpan n (keptOf n M i).length (vec (keptOf n M i)) u → Lin.InSpan n ((keptOf n M i).length + 1) (vec (keptOf n M i ++ [redTo n (rowOf M i) (keptOf n M i) (keptOf n M i).length])) u := fun u hu =>
          Lin.span_trans hu fun l hl' => by rw [← vec_append_lt (keptOf n M i) (redTo n (rowOf M i) (keptOf n M i) (keptOf n M i).length) l hl']; exact Lin.span_self _ (by omega)
        by_cases e : k < i
        · exact up _ (ih2 k e)
        · obtain rfl : k = i := by omega
          have s1 : Lin.InSpan n ((keptOf n M k).length + 1) (vec (keptOf n M k ++ [redTo n (rowOf M k) (keptOf n M k) (keptOf n M k).length])) (vecOf (redTo n (rowOf M k) (keptOf n M k) (keptOf n M k).length)) := by
            have := Lin.span_self (n := n) (k := (keptOf n M k).length + 1) (vec (keptOf n M k ++ [redTo n (rowOf M k) (keptOf n M k) (keptOf n M k).length])) (i := (keptOf n M k).length) (by omega)
            rw [vec_append_eq] at this
            exact this
          have s2 := up (fun j => Lin.fsum (keptOf n M k).length (fun l => Lin.mu (c l) (vec (keptOf n M k) l j))) ⟨c, fun j _ => rfl⟩
          refine Lin.span_congr (Lin.span_ad s1 s2) (fun _ _ _ _ => rfl) fun j hj => ?_
          show Lin.ad (vecOf _ j) _ = vec M k j
          rw [hc j hj, Lin.ad_assoc, Lin.ad_self, Lin.ad_zero]
          rfl
    · rename_i hlt
      refine ⟨fun k hk => Lin.span_mono (ih1 k hk) (by omega), fun k hk => ?_⟩
      by_cases e : k < i
      · exact ih2 k e
      · obtain rfl : k = i := by omega
        have hz : ∀ j, j < n → vecOf (redTo n (rowOf M k) (keptOf n M k) (keptOf n M k).length) j = 0 := fun j hj => by
          unfold vecOf
          rw [leadIdx_zero _ j (by omega)]
          rfl
        refine Lin.span_congr (⟨c, fun j _ => rfl⟩ : Lin.InSpan n (keptOf n M k).length (vec (keptOf n M k)) (fun j => Lin.fsum (keptOf n M k).length (fun l => Lin.mu (c l) (vec (keptOf n M k) l j)))) (fun _ _ _ _ => rfl) fun j hj => ?_
        have := hc j hj
        rw [hz j hj] at this
        exact (Lin.eq_of_ad this.symm).symm
/-- The document's rank is the rank. -/
theorem keptOf_rank (n : Nat) (M : List (List Nat)) (hM : ∀ i, Gf.Bytes (rowOf M i)) (hl : ∀ i, i < M.length → (rowOf M i).length = n) : Lin.IsRank n M.length (vec M) (keptOf n M M.length).length :=
  ⟨vec (keptOf n M M.length), stair_indep (keptOf_stair n M hM hl _ (Nat.le_refl _)), (keptOf_basis n M hM hl _ (Nat.le_refl _)).1, (keptOf_basis n M hM hl _ (Nat.le_refl _)).2⟩
section
open Lin (F fsum ad mu)
theorem horner_fsum (x : Nat) (hx : x < 256) (l : List Nat) (h : Gf.Bytes l) : toF (Gf.horner x l) = fsum l.length (fun j => mu (toF (Gf.nth l j)) (toF (Gf.rep x j))) := by
  rw [← Gf.rsum_all l x hx h]
  have key : ∀ k, toF (Gf.rsum l x k) = fsum k (fun j => mu (toF (Gf.nth l j)) (toF (Gf.rep x j))) := by
    intro k
    induction k with
    | zero => rfl
    | succ k ih =>
      show toF (Gf.rsum l x k ^^^ Gf.mul (Gf.nth l k) (Gf.rep x k)) = ad _ _
      rw [toF_ad (Gf.rsum_lt l x h k) (Gf.mul_lt (h k) _), ih, toF_mu (h k) (Gf.rep_lt x k)]
  exact key _
theorem fsum_pad (f : Nat → F) (m : Nat) : ∀ k, m ≤ k → (∀ i, m ≤ i → i < k → f i = 0) → fsum k f = fsum m f
  | 0, h, _ => by obtain rfl : m = 0 := by omega
                  rfl
  | k + 1, h, hz => by
    by_cases e : m = k + 1
    · rw [e]
    · show ad (fsum k f) (f k) = _
      rw [hz k (by omega) (by omega), Lin.ad_zero]
      exact fsum_pad f m k (by omega) fun i h1 h2 => hz i h1 (by omega)
/-- A sum over places that is 0 at every polynomial of up to k coefficients. -/
theorem dual (X : List Nat) (hX : Gf.Bytes X) (hn : X.Nodup) (c : Nat → F) (h : ∀ p : List Nat, Gf.Bytes p → p.length ≤ X.length → fsum X.length (fun r => mu (c r) (toF (Gf.horner (Gf.nth X r) p))) = 0) : ∀ s, s < X.length → c s = 0 := by
  intro s hs
  have hp := h (Gf.prodPoly X s X.length) (Gf.prodPoly_bytes X hX s _) (by
    have := Gf.prodPoly_length X s X.length
    rw [if_pos hs] at this
    omega)
  rw [Lin.fsum_one s _ X.length hs] at hp
  · rw [Gf.horner_prodPoly X hX] at hp
    refine Classical.byContradiction fun hc => Lin.mu_ne hc ?_ hp
    intro e
    exact Gf.prodAt_ne X hX hn s hs _ (Nat.le_refl _) ((toF_zero (Gf.prodAt_lt _ _ _ _)).1 e)
  · intro i hi hne
    rw [Gf.horner_prodPoly X hX, Gf.prodAt_zero X s i hne _ hi]
    show mu _ (toF 0) = 0
    exact Lin.mu_zero _
/-- VANDERMONDE. -/
theorem powers_indep (X : List Nat) (hX : Gf.Bytes X) (hn : X.Nodup) : Lin.Indep X.length X.length (fun r j => toF (Gf.rep (Gf.nth X r) j)) := by
  intro c hc
  refine dual X hX hn c fun p hp hl => ?_
  have e1 : fsum X.length (fun r => mu (c r) (toF (Gf.horner (Gf.nth X r) p))) = fsum X.length (fun r => fsum p.length (fun j => mu (toF (Gf.nth p j)) (mu (c r) (toF (Gf.rep (Gf.nth X r) j))))) := Lin.fsum_congr fun r _ => by
    rw [horner_fsum _ (hX r) p hp, ← Lin.fsum_mu]
    exact Lin.fsum_congr fun j _ => by rw [← Lin.mu_assoc, Lin.mu_comm (c r), Lin.mu_assoc]
  rw [e1, Lin.fsum_swap]
  refine Lin.fsum_zero fun j hj => ?_
  rw [Lin.fsum_mu, hc j (by omega), Lin.mu_zero]
theorem lagr_fsum (xs ys : List Nat) (hy : Gf.Bytes ys) (x : Nat) : ∀ k, toF (Gf.lagr xs ys x k) = fsum k (fun j => mu (toF (Gf.nth ys j)) (toF (Gf.shareOf xs j x)))
  | 0 => rfl
  | k + 1 => by
    show toF (Gf.lagr xs ys x k ^^^ Gf.mul (Gf.nth ys k) (Gf.shareOf xs k x)) = ad _ _
    rw [toF_ad (Gf.lagr_lt xs ys x hy k) (Gf.mul_lt (hy k) _), lagr_fsum xs ys hy x k, toF_mu (hy k) (Gf.shareOf_lt _ _ _)]
/-- What a polynomial has at x, of what it has at the places xs. -/
theorem told_fsum (xs p : List Nat) (hx : Gf.Bytes xs) (hn : xs.Nodup) (hp : Gf.Bytes p) (hl : p.length ≤ xs.length) (x : Nat) (hx' : x < 256) : toF (Gf.horner x p) = fsum xs.length (fun j => mu (toF (Gf.horner (Gf.nth xs j) p)) (toF (Gf.shareOf xs j x))) := by
  have hyb : Gf.Bytes (rowFn xs.length fun j => Gf.horner (Gf.nth xs j) p) := rowFn_bytes _ _ fun j => Gf.horner_lt _ p hp
  rw [← Gf.through p xs (rowFn xs.length fun j => Gf.horner (Gf.nth xs j) p) hp hx hyb hn hl (fun j hj => nth_rowFn _ _ j hj) x hx', lagr_fsum _ _ hyb]
  exact Lin.fsum_congr fun j hj => by rw [nth_rowFn _ _ j hj]
/-- Rows of Lagrange's polynomials over the places xs, at places X that differ, as many. -/
theorem shares_indep (xs X : List Nat) (hx : Gf.Bytes xs) (hxn : xs.Nodup) (hX : Gf.Bytes X) (hn : X.Nodup) (hl : X.length = xs.length) : Lin.Indep xs.length X.length (fun r j => toF (Gf.shareOf xs j (Gf.nth X r))) := by
  intro c hc
  refine dual X hX hn c fun p hp hpl => ?_
  have e1 : fsum X.length (fun r => mu (c r) (toF (Gf.horner (Gf.nth X r) p))) = fsum X.length (fun r => fsum xs.length (fun j => mu (toF (Gf.horner (Gf.nth xs j) p)) (mu (c r) (toF (Gf.shareOf xs j (Gf.nth X r)))))) := Lin.fsum_congr fun r _ => by
    rw [told_fsum xs p hx hxn hp (by omega) _ (hX r), ← Lin.fsum_mu]
    exact Lin.fsum_congr fun j _ => by rw [← Lin.mu_assoc, Lin.mu_comm (c r), Lin.mu_assoc]
  rw [e1, Lin.fsum_swap]
  refine Lin.fsum_zero fun j hj => ?_
  rw [Lin.fsum_mu, hc j hj, Lin.mu_zero]
/-- One times x so often. -/
def monom (m : Nat) : List Nat := rowFn (m + 1) fun j => if j = m then 1 else 0
theorem monom_bytes (m : Nat) : Gf.Bytes (monom m) := rowFn_bytes _ _ fun j => by split <;> decide
theorem monom_horner (m x : Nat) (hx : x < 256) : toF (Gf.horner x (monom m)) = toF (Gf.rep x m) := by
  rw [horner_fsum x hx _ (monom_bytes m), show (monom m).length = m + 1 from rowFn_length _ _, Lin.fsum_one m _ (m + 1) (by omega)]
  · unfold monom
    rw [nth_rowFn _ _ m (by omega), if_pos rfl]
    exact Lin.one_mu _
  · intro i hi hne
    unfold monom
    rw [nth_rowFn _ _ i hi, if_neg hne]
    exact Lin.zero_mu _
/-- Lagrange's rows times the powers of their places are the powers. -/
theorem shares_times_powers (xs : List Nat) (hx : Gf.Bytes xs) (hxn : xs.Nodup) (x m : Nat) (hx' : x < 256) (hm : m < xs.length) : fsum xs.length (fun j => mu (toF (Gf.shareOf xs j x)) (toF (Gf.rep (Gf.nth xs j) m))) = toF (Gf.rep x m) := by
  rw [← monom_horner m x hx', told_fsum xs (monom m) hx hxn (monom_bytes m) (by rw [show (monom m).length = m + 1 from rowFn_length _ _]; omega) x hx']
  exact Lin.fsum_congr fun j _ => by rw [monom_horner m _ (hx j), Lin.mu_comm]
end
namespace Lin
/-- Row p goes to place d, divided by what it has in column k; row d to place p. -/
def liftV (g : Nat → Nat → F) (d p k : Nat) : Nat → Nat → F := fun i j => if i = d then mu (iv (g p k)) (g p j) else if i = p then g d j else g i j
/-- Row d is taken away from the others. -/
def clearV (h : Nat → Nat → F) (d k : Nat) : Nat → Nat → F := fun i j => if i = d then h i j else ad (h i j) (mu (h i k) (h d j))
/-- Behind k columns: d of them are done; the rows span the same. -/
structure Red (r n k : Nat) (f g : Nat → Nat → F) (d : Nat) : Prop where
  le : d ≤ r
  to : ∀ i, i < r → InSpan n r f (g i)
  from_ : ∀ i, i < r → InSpan n r g (f i)
  piv : ∃ p : Nat → Nat, (∀ i, i < d → p i < k ∧ g i (p i) = 1 ∧ ∀ i', i' < r → i' ≠ i → g i' (p i) = 0) ∧ ∀ i j, i < j → j < d → p i < p j
  zero : ∀ i, d ≤ i → i < r → ∀ j, j < k → g i j = 0
theorem Red.start (r n : Nat) (f : Nat → Nat → F) : Red r n 0 f f 0 where
  le := Nat.zero_le _
  to := fun _ hi => span_self f hi
  from_ := fun _ hi => span_self f hi
  piv := ⟨fun _ => 0, fun _ hi => absurd hi (Nat.not_lt_zero _), fun _ _ _ hj => absurd hj (Nat.not_lt_zero _)⟩
  zero := fun _ _ _ _ hj => absurd hj (Nat.not_lt_zero _)
theorem Red.skip {r n k d : Nat} {f g : Nat → Nat → F} (h : Red r n k f g d) (h0 : ∀ i, d ≤ i → i < r → g i k = 0) : Red r n (k + 1) f g d where
  le := h.le
  to := h.to
  from_ := h.from_
  piv := by
    obtain ⟨p, h1, h2⟩ := h.piv
    exact ⟨p, fun i hi => ⟨Nat.lt_succ_of_lt (h1 i hi).1, (h1 i hi).2⟩, h2⟩
  zero := fun i hd hi j hj => by
    by_cases e : j = k
    · rw [e]; exact h0 i hd hi
    · exact h.zero i hd hi j (by omega)
theorem span_scale {n r : Nat} {v : Nat → Nat → F} {x y : Nat → F} (hx : InSpan n r v x) (a : F) (h : ∀ j, y j = mu a (x j)) : InSpan n r v y := span_congr (span_mu hx a) (fun _ _ _ _ => rfl) (fun j _ => (h j).symm)
theorem lift_to {r n d p k : Nat} {g : Nat → Nat → F} (hd : d < r) (hp : p < r) : ∀ i, i < r → InSpan n r g (liftV g d p k i) := fun i hi => by
  by_cases e : i = d
  · exact span_scale (span_self g hp) (iv (g p k)) (fun j => by unfold liftV; rw [if_pos e])
  · by_cases e' : i = p
    · exact span_congr (span_self g hd) (fun _ _ _ _ => rfl) (fun j _ => by unfold liftV; rw [if_neg e, if_pos e'])
    · exact span_congr (span_self g hi) (fun _ _ _ _ => rfl) (fun j _ => by unfold liftV; rw [if_neg e, if_neg e'])
theorem lift_from {r n d p k : Nat} {g : Nat → Nat → F} (hd : d < r) (hp : p < r) (hne : g p k ≠ 0) : ∀ i, i < r → InSpan n r (liftV g d p k) (g i) := fun i hi => by
  by_cases e : i = p
  · refine span_scale (span_self (liftV g d p k) hd) (g p k) (fun j => ?_)
    unfold liftV
    rw [if_pos rfl, ← mu_assoc, mu_iv _ hne, one_mu, e]
  · by_cases e' : i = d
    · refine span_congr (span_self (liftV g d p k) hp) (fun _ _ _ _ => rfl) (fun j _ => ?_)
      unfold liftV
      rw [if_neg (fun h => e (by rw [e', h])), if_pos rfl, e']
    · refine span_congr (span_self (liftV g d p k) hi) (fun _ _ _ _ => rfl) (fun j _ => ?_)
      unfold liftV
      rw [if_neg e', if_neg e]
theorem clear_to {r n d k : Nat} {h : Nat → Nat → F} (hd : d < r) : ∀ i, i < r → InSpan n r h (clearV h d k i) := fun i hi => by
  by_cases e : i = d
  · exact span_congr (span_self h hi) (fun _ _ _ _ => rfl) (fun j _ => by unfold clearV; rw [if_pos e])
  · exact span_congr (span_ad (span_self h hi) (span_mu (span_self h hd) (h i k))) (fun _ _ _ _ => rfl) (fun j _ => by unfold clearV; rw [if_neg e])
theorem clear_from {r n d k : Nat} {h : Nat → Nat → F} (hd : d < r) : ∀ i, i < r → InSpan n r (clearV h d k) (h i) := fun i hi => by
  by_cases e : i = d
  · exact span_congr (span_self (clearV h d k) hi) (fun _ _ _ _ => rfl) (fun j _ => by unfold clearV; rw [if_pos e])
  · refine span_congr (span_ad (span_self (clearV h d k) hi) (span_mu (span_self (clearV h d k) hd) (h i k))) (fun _ _ _ _ => rfl) (fun j _ => ?_)
    show ad (clearV h d k i j) (mu (h i k) (clearV h d k d j)) = h i j
    unfold clearV
    rw [if_neg e, if_pos rfl, ad_assoc, ad_self, ad_zero]
/-- One column more is done. -/
theorem Red.step {r n k d p : Nat} {f g : Nat → Nat → F} (h : Red r n k f g d) (hdp : d ≤ p) (hp : p < r) (hne : g p k ≠ 0) : Red r n (k + 1) f (clearV (liftV g d p k) d k) (d + 1) := by
  have hd : d < r := by omega
  have L0 : ∀ j, liftV g d p k d j = mu (iv (g p k)) (g p j) := fun j => by unfold liftV; rw [if_pos rfl]
  have Ldk : liftV g d p k d k = 1 := by rw [L0, iv_mu _ hne]
  have C0 : ∀ j, clearV (liftV g d p k) d k d j = liftV g d p k d j := fun j => by unfold clearV; rw [if_pos rfl]
  have C1 : ∀ i j, i ≠ d → liftV g d p k d j = 0 → clearV (liftV g d p k) d k i j = liftV g d p k i j := fun i j hi hz => by unfold clearV; rw [if_neg hi, hz, mu_zero, ad_zero]
  have Ck : ∀ i, i ≠ d → clearV (liftV g d p k) d k i k = 0 := fun i hi => by unfold clearV; rw [if_neg hi, Ldk, mu_one, ad_self]
  obtain ⟨q, q1, q2⟩ := h.piv
  have Lq : ∀ i, i < d → liftV g d p k d (q i) = 0 := fun i hi => by rw [L0, (q1 i hi).2.2 p hp (by omega), mu_zero]
  refine ⟨by omega, fun i hi => span_trans (span_trans (clear_to hd i hi) (lift_to hd hp)) h.to, fun i hi => span_trans (span_trans (h.from_ i hi) (lift_from hd hp hne)) (clear_from hd), ?_, ?_⟩
  · refine ⟨fun i => if i = d then k else q i, fun i hi => ?_, fun i j hij hj => ?_⟩
    · by_cases e : i = d
      · subst e
        simp only [if_true]
        exact ⟨by omega, by rw [C0, Ldk], fun i' _ hi' => Ck i' hi'⟩
      · simp only [e, if_false]
        have hid : i < d := by omega
        refine ⟨by have := (q1 i hid).1; omega, ?_, fun i' hi' hne' => ?_⟩
        · rw [C1 i (q i) e (Lq i hid)]
          unfold liftV
          rw [if_neg e, if_neg (by omega)]
          exact (q1 i hid).2.1
        · by_cases e2 : i' = d
          · rw [e2, C0]; exact Lq i hid
          · rw [C1 i' (q i) e2 (Lq i hid)]
            unfold liftV
            rw [if_neg e2]
            by_cases e3 : i' = p
            · rw [if_pos e3]; exact (q1 i hid).2.2 d hd (by omega)
            · rw [if_neg e3]; exact (q1 i hid).2.2 i' hi' hne'
    · by_cases e : j = d
      · simp only [e, if_true, show ¬ i = d by omega, if_false]
        exact (q1 i (by omega)).1
      · simp only [e, if_false, show ¬ i = d by omega]
        exact q2 i j hij (by omega)
  · intro i hi hir j hj
    by_cases e : j = k
    · rw [e]; exact Ck i (by omega)
    · have hz : liftV g d p k d j = 0 := by rw [L0, h.zero p hdp hp j (by omega), mu_zero]
      rw [C1 i j (by omega) hz]
      unfold liftV
      rw [if_neg (by omega)]
      by_cases e3 : i = p
      · rw [if_pos e3]; exact h.zero d (Nat.le_refl _) hd j (by omega)
      · rw [if_neg e3]; exact h.zero i (by omega) hir j (by omega)
theorem span_less {n c r : Nat} {v : Nat → Nat → F} {u : Nat → F} (h : InSpan n r v u) (hc : c ≤ n) : InSpan c r v u := by
  obtain ⟨a, ha⟩ := h
  exact ⟨a, fun j hj => ha j (by omega)⟩
theorem fsum_less {f : Nat → F} {m : Nat} : ∀ {k : Nat}, m ≤ k → (∀ i, m ≤ i → i < k → f i = 0) → fsum k f = fsum m f
  | 0, h, _ => by rw [show m = 0 by omega]
  | k + 1, h, hz => by
    by_cases e : m = k + 1
    · rw [e]
    · show ad (fsum k f) (f k) = _
      rw [hz k (by omega) (by omega), ad_zero]
      exact fsum_less (by omega) (fun i h1 h2 => hz i h1 (by omega))
/-- How many were done is the rank of the columns that were looked at. -/
theorem Red.rank {r n c d : Nat} {f g : Nat → Nat → F} (h : Red r n c f g d) (hc : c ≤ n) : IsRank c r f d := by
  obtain ⟨q, q1, _⟩ := h.piv
  refine ⟨g, ?_, fun i hi => span_less (h.to i (by have := h.le; omega)) hc, fun i hi => ?_⟩
  · intro a ha i hi
    have := ha (q i) (q1 i hi).1
    rw [fsum_one i _ d hi (fun i' hi' hne => by rw [(q1 i hi).2.2 i' (by have := h.le; omega) hne, mu_zero]), (q1 i hi).2.1, mu_one] at this
    exact this
  · obtain ⟨a, ha⟩ := h.from_ i hi
    refine ⟨a, fun j hj => ?_⟩
    rw [ha j (by omega)]
    exact fsum_less h.le (fun i' h1 h2 => by rw [h.zero i' h1 h2 j hj, mu_zero])
/-- Where all columns are done, they are 1 in the diagonal, else 0. -/
theorem Red.diag {r n : Nat} {f g : Nat → Nat → F} (h : Red r n r f g r) : ∀ i j, i < r → j < r → g i j = one i j := by
  obtain ⟨q, q1, q2⟩ := h.piv
  have up : ∀ i, i < r → i ≤ q i := fun i => by
    induction i with
    | zero => intro _; exact Nat.zero_le _
    | succ i ih => intro hi; have h1 := ih (by omega); have h2 := q2 i (i + 1) (by omega) hi; omega
  have down : ∀ m, m < r → q (r - 1 - m) ≤ r - 1 - m := fun m => by
    induction m with
    | zero => intro hm; have := (q1 (r - 1) (by omega)).1; show q (r - 1) ≤ r - 1; omega
    | succ m ih => intro hm; have h1 := ih (by omega); have h2 := q2 (r - 1 - (m + 1)) (r - 1 - m) (by omega) (by omega); omega
  have id : ∀ i, i < r → q i = i := fun i hi => by
    have h1 := up i hi
    have h2 := down (r - 1 - i) (by omega)
    rw [show r - 1 - (r - 1 - i) = i by omega] at h2
    omega
  intro i j hi hj
  have := q1 j hj
  rw [id j hj] at this
  unfold one
  by_cases e : i = j
  · rw [if_pos e, e]; exact this.2.1
  · rw [if_neg e]; exact this.2.2 i hi e
/-- What holds between the columns of all rows holds between those of all rows that they span. -/
theorem Red.cols {r n c d m l : Nat} {f g : Nat → Nat → F} (h : Red r n c f g d) (a : Nat → Nat → F) (hm : m + l ≤ n) (hf : ∀ i, i < r → ∀ j, j < m → f i j = fsum l (fun t => mu (f i (m + t)) (a t j))) : ∀ i, i < r → ∀ j, j < m → g i j = fsum l (fun t => mu (g i (m + t)) (a t j)) := by
  intro i hi j hj
  obtain ⟨b, hb⟩ := h.to i hi
  rw [hb j (by omega)]
  have e1 : fsum l (fun t => mu (g i (m + t)) (a t j)) = fsum l (fun t => fsum r (fun s => mu (mu (b s) (f s (m + t))) (a t j))) := fsum_congr fun t ht => by
    rw [hb (m + t) (by omega), ← fsum_mu_right]
  rw [e1, fsum_swap]
  refine fsum_congr fun s hs => ?_
  rw [hf s hs j hj, ← fsum_mu]
  exact fsum_congr fun t _ => (mu_assoc _ _ _).symm
/-- A matrix with 1 in the diagonal beside it: what makes the left one 1 in the diagonal leaves the inverse. -/
theorem Red.inverse {r : Nat} {m f g : Nat → Nat → F} (h : Red r (2 * r) r f g r) (h1 : ∀ i j, i < r → j < r → f i j = m i j) (h2 : ∀ i j, i < r → j < r → f i (r + j) = one i j) : ∀ i j, i < r → j < r → mm r (fun i j => g i (r + j)) m i j = one i j := by
  intro i j hi hj
  have hc := h.cols (m := r) (l := r) m (by omega) (fun i hi j hj => by
    rw [h1 i j hi hj]
    have : fsum r (fun t => mu (f i (r + t)) (m t j)) = fsum r (fun t => mu (one i t) (m t j)) := fsum_congr fun t ht => by rw [h2 i t hi ht]
    rw [this]
    exact (one_mm r m i j hi).symm) i hi j hj
  rw [← h.diag i j hi hj, hc]
  rfl
end Lin
end Go.Proofs.YtmbpfbhpmafheaaGreatDoor
