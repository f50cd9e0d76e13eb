/- Arithmetic of bytes as polynomials over two elements, modulo x^8 + x^4 + x^3 + x^2 + 1, on plain numbers below 256: the products that the program makes are those of a field. -/
namespace Go.Proofs.YtmlcbphcphpihaaDoor.Gf
def tx (a : Nat) : Nat := if a < 128 then a * 2 else (a * 2 - 256) ^^^ 29
def txn (a : Nat) : Nat → Nat
  | 0 => a
  | k + 1 => tx (txn a k)
def bitOf (b i : Nat) : Nat := b / 2 ^ i % 2
def part (a b : Nat) : Nat → Nat
  | 0 => 0
  | k + 1 => if bitOf b k = 1 then part a b k ^^^ txn a k else part a b k
def mul (a b : Nat) : Nat := part a b 8

theorem tx_lt {a : Nat} (h : a < 256) : tx a < 256 := by
  unfold tx; split
  · omega
  · exact Nat.xor_lt_two_pow (n := 8) (by omega) (by decide)
theorem txn_lt {a : Nat} (h : a < 256) (k : Nat) : txn a k < 256 := by
  induction k with
  | zero => exact h
  | succ k ih => exact tx_lt ih
theorem part_lt {a : Nat} (h : a < 256) (b k : Nat) : part a b k < 256 := by
  induction k with
  | zero => exact (by decide : (0 : Nat) < 256)
  | succ k ih => unfold part; split
                 · exact Nat.xor_lt_two_pow (n := 8) ih (txn_lt h k)
                 · exact ih
theorem mul_lt {a : Nat} (h : a < 256) (b : Nat) : mul a b < 256 := part_lt h b 8

/-- tx by plain bits. -/
theorem tx_eq : ∀ a : Nat, a < 256 → tx a = (a <<< 1) % 2 ^ 8 ^^^ (29 * (a >>> 7)) := by decide +kernel
theorem bit_cases (a : Nat) (h : a < 256) : a >>> 7 = 0 ∨ a >>> 7 = 1 := by
  rw [Nat.shiftRight_eq_div_pow]; omega
theorem xlt {a b : Nat} (ha : a < 256) (hb : b < 256) : a ^^^ b < 256 := Nat.xor_lt_two_pow (n := 8) ha hb
theorem tx_xor (a b : Nat) (ha : a < 256) (hb : b < 256) : tx (a ^^^ b) = tx a ^^^ tx b := by
  rw [tx_eq _ (xlt ha hb), tx_eq _ ha, tx_eq _ hb, Nat.shiftLeft_xor_distrib, Nat.shiftRight_xor_distrib, Nat.xor_mod_two_pow]
  have h29 : 29 * (a >>> 7 ^^^ b >>> 7) = 29 * (a >>> 7) ^^^ 29 * (b >>> 7) := by
    rcases bit_cases a ha with h | h <;> rcases bit_cases b hb with h' | h' <;> rw [h, h'] <;> rfl
  rw [h29]
  ac_rfl
theorem txn_xor (a b : Nat) (ha : a < 256) (hb : b < 256) (k : Nat) : txn (a ^^^ b) k = txn a k ^^^ txn b k := by
  induction k with
  | zero => rfl
  | succ k ih => show tx (txn (a ^^^ b) k) = tx (txn a k) ^^^ tx (txn b k)
                 rw [ih, tx_xor _ _ (txn_lt ha k) (txn_lt hb k)]
theorem tx_zero : tx 0 = 0 := by decide
theorem txn_zero (k : Nat) : txn 0 k = 0 := by
  induction k with
  | zero => rfl
  | succ k ih => show tx (txn 0 k) = 0; rw [ih, tx_zero]
theorem bit_xor (b c k : Nat) : bitOf (b ^^^ c) k = (bitOf b k + bitOf c k) % 2 := by
  unfold bitOf
  rw [← Nat.shiftRight_eq_div_pow, ← Nat.shiftRight_eq_div_pow, ← Nat.shiftRight_eq_div_pow, Nat.shiftRight_xor_distrib]
  have := Nat.xor_mod_two_pow (a := b >>> k) (b := c >>> k) (n := 1)
  simp only [Nat.pow_one] at this
  rw [this]
  rcases Nat.mod_two_eq_zero_or_one (b >>> k) with h | h <;> rcases Nat.mod_two_eq_zero_or_one (c >>> k) with h' | h' <;> rw [h, h'] <;> rfl
theorem bit_01 (b k : Nat) : bitOf b k = 0 ∨ bitOf b k = 1 := Nat.mod_two_eq_zero_or_one _
theorem part_left (a a' b : Nat) (ha : a < 256) (ha' : a' < 256) (k : Nat) : part (a ^^^ a') b k = part a b k ^^^ part a' b k := by
  induction k with
  | zero => exact (Nat.xor_self 0).symm
  | succ k ih =>
    simp only [part]
    rw [ih, txn_xor a a' ha ha']
    split
    · ac_rfl
    · rfl
theorem part_right (a b c : Nat) (k : Nat) : part a (b ^^^ c) k = part a b k ^^^ part a c k := by
  induction k with
  | zero => exact (Nat.xor_self 0).symm
  | succ k ih =>
    simp only [part]
    rw [ih, bit_xor]
    have hx : txn a k ^^^ txn a k = 0 := Nat.xor_self _
    rcases bit_01 b k with h | h <;> rcases bit_01 c k with h' | h' <;> rw [h, h'] <;> simp
    · ac_rfl
    · ac_rfl
    · have : part a b k ^^^ txn a k ^^^ (part a c k ^^^ txn a k) = part a b k ^^^ part a c k ^^^ (txn a k ^^^ txn a k) := by ac_rfl
      rw [this, hx, Nat.xor_zero]
theorem mul_left (a a' b : Nat) (ha : a < 256) (ha' : a' < 256) : mul (a ^^^ a') b = mul a b ^^^ mul a' b := part_left a a' b ha ha' 8
theorem mul_right (a b c : Nat) : mul a (b ^^^ c) = mul a b ^^^ mul a c := part_right a b c 8
theorem mul_zero (a : Nat) : mul a 0 = 0 := by simp [mul, part, bitOf]
theorem part_zero (b k : Nat) : part 0 b k = 0 := by
  induction k with
  | zero => rfl
  | succ k ih => unfold part; rw [ih, txn_zero]; simp
theorem zero_mul (b : Nat) : mul 0 b = 0 := part_zero b 8
theorem mul_one (a : Nat) : mul a 1 = a := by simp [mul, part, bitOf, txn]
theorem one_mul : ∀ b : Nat, b < 256 → mul 1 b = b := by decide +kernel
theorem txn_tx (a k : Nat) : txn (tx a) k = tx (txn a k) := by
  induction k with
  | zero => rfl
  | succ k ih => show tx (txn (tx a) k) = _; rw [ih]; rfl
theorem part_tx (a b : Nat) (ha : a < 256) (k : Nat) : part (tx a) b k = tx (part a b k) := by
  induction k with
  | zero => exact tx_zero.symm
  | succ k ih =>
    simp only [part]
    rw [ih, txn_tx]
    split
    · rw [tx_xor _ _ (part_lt ha b k) (txn_lt ha k)]
    · rfl
theorem tx_mul (a b : Nat) (ha : a < 256) : mul (tx a) b = tx (mul a b) := part_tx a b ha 8
theorem txn_mul (a b : Nat) (ha : a < 256) (k : Nat) : mul (txn a k) b = txn (mul a b) k := by
  induction k with
  | zero => rfl
  | succ k ih => show mul (tx (txn a k)) b = tx (txn (mul a b) k); rw [tx_mul _ _ (txn_lt ha k), ih]
/-- A number below 256 out of its eight bits. -/
theorem part_one : ∀ b : Nat, b < 256 → part 1 b 8 = b := one_mul
/-- mul is told by its products with the powers of x on the right. -/
theorem part_comm (a b : Nat) (ha : a < 256) (k : Nat) : mul (part 1 b k) a = part a b k := by
  induction k with
  | zero => exact zero_mul a
  | succ k ih =>
    simp only [part]
    split
    · rw [mul_left _ _ _ (part_lt (by decide) b k) (txn_lt (by decide) k), ih, txn_mul 1 a (by decide) k, one_mul a ha]
    · exact ih
theorem mul_comm (a b : Nat) (ha : a < 256) (hb : b < 256) : mul a b = mul b a := by
  have h := part_comm a b ha 8
  rw [part_one b hb] at h
  exact h.symm
theorem part_assoc (a b c : Nat) (ha : a < 256) (hb : b < 256) (k : Nat) : part (mul a b) c k = mul a (part b c k) := by
  induction k with
  | zero => exact (mul_zero a).symm
  | succ k ih =>
    simp only [part]
    split
    · rw [ih, mul_right, mul_comm a (txn b k) ha (txn_lt hb k), txn_mul b a hb k, mul_comm b a hb ha]
    · exact ih
theorem mul_assoc (a b c : Nat) (ha : a < 256) (hb : b < 256) : mul (mul a b) c = mul a (mul b c) := part_assoc a b c ha hb 8

/-- power by eight bits of n, as the program makes it. -/
def sq (a : Nat) : Nat → Nat
  | 0 => a
  | k + 1 => mul (sq a k) (sq a k)
def pw (a n : Nat) : Nat → Nat
  | 0 => 1
  | k + 1 => if bitOf n k = 1 then mul (pw a n k) (sq a k) else pw a n k
def power (a n : Nat) : Nat := pw a n 8
def inv (a : Nat) : Nat := power a 254
theorem sq_lt {a : Nat} (h : a < 256) (k : Nat) : sq a k < 256 := by
  induction k with
  | zero => exact h
  | succ k ih => exact mul_lt ih _
theorem pw_lt {a : Nat} (n k : Nat) : pw a n k < 256 := by
  induction k with
  | zero => exact (by decide : (1 : Nat) < 256)
  | succ k ih => unfold pw; split
                 · exact mul_lt ih _
                 · exact ih
theorem power_lt (a n : Nat) : power a n < 256 := pw_lt n 8
theorem inv_lt (a : Nat) : inv a < 256 := power_lt a 254
set_option maxRecDepth 100000 in
theorem mul_inv : ∀ a : Nat, a < 256 → a ≠ 0 → mul a (inv a) = 1 := by decide +kernel
theorem inv_mul (a : Nat) (h : a < 256) (h0 : a ≠ 0) : mul (inv a) a = 1 := by
  rw [mul_comm _ _ (inv_lt a) h]; exact mul_inv a h h0

/-- a n times with itself. -/
def rep (a : Nat) : Nat → Nat
  | 0 => 1
  | n + 1 => mul (rep a n) a
end Go.Proofs.YtmlcbphcphpihaaDoor.Gf
