/- The document's own products, inverses and powers, on plain numbers, are those of the program's arithmetic. -/
import Derived.Test.YtmlcbphcphpihaaDoorGf
namespace Go.Proofs.YtmlcbphcphpihaaDoor.Gf
def rprod (a b : Nat) : Nat → Nat
  | 0 => 0
  | k + 1 => if bitOf b k = 1 then rprod a b k ^^^ (a * 2 ^ k) else rprod a b k
def rstep (i n : Nat) : Nat := if bitOf n i = 1 then n ^^^ (285 * 2 ^ (i - 8)) else n
def rr (n : Nat) : Nat → Nat
  | 0 => n
  | j + 1 => rstep (14 - j) (rr n j)
def rmod (n : Nat) : Nat := rr n 7 % 256
def rmul (a b : Nat) : Nat := rmod (rprod a b 8)
theorem rprod_lt {a : Nat} (h : a < 256) (b : Nat) : ∀ k, k ≤ 8 → rprod a b k < 2 ^ 15
  | 0, _ => by show 0 < 2 ^ 15; decide
  | k + 1, hk => by
    unfold rprod
    have hm : a * 2 ^ k < 2 ^ 15 := by
      have h1 : 2 ^ k ≤ 2 ^ 7 := Nat.pow_le_pow_right (by decide) (by omega)
      have h2 : a * 2 ^ k ≤ 255 * 2 ^ 7 := Nat.mul_le_mul (by omega) h1
      exact Nat.lt_of_le_of_lt h2 (by decide)
    split
    · exact Nat.xor_lt_two_pow (rprod_lt h b k (by omega)) hm
    · exact rprod_lt h b k (by omega)
theorem rstep_lt {i n : Nat} (hi : i ≤ 14) (hn : n < 2 ^ 15) : rstep i n < 2 ^ 15 := by
  unfold rstep
  split
  · refine Nat.xor_lt_two_pow hn ?_
    have h1 : 2 ^ (i - 8) ≤ 2 ^ 6 := Nat.pow_le_pow_right (by decide) (by omega)
    have h2 : 285 * 2 ^ (i - 8) ≤ 285 * 2 ^ 6 := Nat.mul_le_mul (Nat.le_refl _) h1
    exact Nat.lt_of_le_of_lt h2 (by decide)
  · exact hn
theorem rr_lt {n : Nat} (hn : n < 2 ^ 15) : ∀ j, rr n j < 2 ^ 15
  | 0 => hn
  | j + 1 => rstep_lt (by omega) (rr_lt hn j)
theorem rstep_xor (i x y : Nat) : rstep i (x ^^^ y) = rstep i x ^^^ rstep i y := by
  unfold rstep
  rw [bit_xor]
  have hx : ∀ c : Nat, c ^^^ c = 0 := Nat.xor_self
  rcases bit_01 x i with h | h <;> rcases bit_01 y i with h' | h' <;> rw [h, h'] <;> simp
  · ac_rfl
  · ac_rfl
  · have : x ^^^ 285 * 2 ^ (i - 8) ^^^ (y ^^^ 285 * 2 ^ (i - 8)) = x ^^^ y ^^^ (285 * 2 ^ (i - 8) ^^^ 285 * 2 ^ (i - 8)) := by ac_rfl
    rw [this, hx, Nat.xor_zero]
theorem rr_xor (x y : Nat) : ∀ j, rr (x ^^^ y) j = rr x j ^^^ rr y j
  | 0 => rfl
  | j + 1 => by show rstep _ (rr (x ^^^ y) j) = rstep _ (rr x j) ^^^ rstep _ (rr y j); rw [rr_xor x y j, rstep_xor]
theorem rmod_xor (x y : Nat) : rmod (x ^^^ y) = rmod x ^^^ rmod y := by
  unfold rmod
  rw [rr_xor]
  exact Nat.xor_mod_two_pow (n := 8)
theorem rmod_shift_all : (List.range 8).all (fun k => (List.range 256).all fun a => rmod (a * 2 ^ k) == txn a k) = true := by decide +kernel
theorem rmod_shift (a k : Nat) (ha : a < 256) (hk : k < 8) : rmod (a * 2 ^ k) = txn a k := by
  have h := List.all_eq_true.1 rmod_shift_all k (List.mem_range.2 hk)
  have h' := List.all_eq_true.1 h a (List.mem_range.2 ha)
  simpa using h'
theorem rmod_zero : rmod 0 = 0 := by decide
theorem rmod_rprod (a b : Nat) (ha : a < 256) : ∀ k, k ≤ 8 → rmod (rprod a b k) = part a b k
  | 0, _ => rmod_zero
  | k + 1, hk => by
    simp only [rprod, part]
    split
    · rw [rmod_xor, rmod_rprod a b ha k (by omega), rmod_shift a k ha (by omega)]
    · exact rmod_rprod a b ha k (by omega)
theorem rmul_eq (a b : Nat) (ha : a < 256) : rmul a b = mul a b := rmod_rprod a b ha 8 (Nat.le_refl _)

/-- Only the inverse times a is 1. -/
theorem inv_unique (a b : Nat) (ha : a < 256) (hb : b < 256) (h0 : a ≠ 0) (h : mul a b = 1) : b = inv a := by
  have h1 : mul (inv a) (mul a b) = mul (inv a) 1 := by rw [h]
  rw [← mul_assoc (inv a) a b (inv_lt a) ha, inv_mul a ha h0, mul_one, one_mul b hb] at h1
  exact h1
theorem inv_pos (a : Nat) (ha : a < 256) (h0 : a ≠ 0) : inv a ≠ 0 := by
  intro h
  have := mul_inv a ha h0
  rw [h, mul_zero] at this
  exact absurd this (by decide)
theorem rep_lt (a : Nat) : ∀ n, rep a n < 256
  | 0 => by show 1 < 256; decide
  | n + 1 => mul_lt (rep_lt a n) a
theorem rep_add (a : Nat) (ha : a < 256) (m : Nat) : ∀ n, rep a (m + n) = mul (rep a m) (rep a n)
  | 0 => (mul_one _).symm
  | n + 1 => by
    show mul (rep a (m + n)) a = mul (rep a m) (mul (rep a n) a)
    rw [rep_add a ha m n, mul_assoc _ _ _ (rep_lt a m) (rep_lt a n)]
theorem rep_sq (a : Nat) (ha : a < 256) : ∀ k, sq a k = rep a (2 ^ k)
  | 0 => by show a = mul 1 a; exact (one_mul a ha).symm
  | k + 1 => by
    show mul (sq a k) (sq a k) = rep a (2 ^ (k + 1))
    rw [rep_sq a ha k, ← rep_add a ha, Nat.pow_succ]
    congr 1; omega
theorem mod_bit (n k : Nat) : n % 2 ^ (k + 1) = n % 2 ^ k + bitOf n k * 2 ^ k := by
  unfold bitOf
  rw [Nat.pow_succ, Nat.mod_mul]
  rw [Nat.mul_comm (2 ^ k)]
theorem pw_rep (a n : Nat) (ha : a < 256) : ∀ k, pw a n k = rep a (n % 2 ^ k)
  | 0 => by show 1 = rep a (n % 1); rw [Nat.mod_one]; rfl
  | k + 1 => by
    simp only [pw]
    rw [pw_rep a n ha k, rep_sq a ha k, mod_bit]
    rcases bit_01 n k with h | h <;> rw [h] <;> simp
    rw [rep_add a ha]
theorem power_rep (a n : Nat) (ha : a < 256) (hn : n < 256) : power a n = rep a n := by
  have := pw_rep a n ha 8
  rw [show n % 2 ^ 8 = n from Nat.mod_eq_of_lt hn] at this
  exact this
end Go.Proofs.YtmlcbphcphpihaaDoor.Gf
