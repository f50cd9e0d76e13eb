/- The remainder bit by bit: it is linear, a step with no bit loses nothing, and so a burst of at most 32 bits is seen. -/
import Derived.Test.YteppmkpckdmnaaaDoorGfAll
namespace Go.Proofs.YteppmkpckdmnaaaDoor.Crc
def poly : Nat := 3988292384
def back (c : Nat) : Nat := if c % 2 = 1 then poly else 0
/-- One step: the lowest bit goes out; with the text's bit it tells whether the polynomial is added. -/
def step (c b : Nat) : Nat := c / 2 ^^^ back (c ^^^ b)
theorem xor_mod2 (a b : Nat) : (a ^^^ b) % 2 = (a % 2 + b % 2) % 2 := by
  have h := Nat.xor_mod_two_pow (a := a) (b := b) (n := 1)
  have e : ∀ x, x < 2 → ∀ y, y < 2 → x ^^^ y = (x + y) % 2 := by decide
  rw [show 2 ^ 1 = 2 from rfl] at h
  rw [h, e _ (Nat.mod_lt _ (by decide)) _ (Nat.mod_lt _ (by decide))]
theorem xor_div2 (a b : Nat) : (a ^^^ b) / 2 = a / 2 ^^^ b / 2 := Nat.xor_div_two
theorem back_xor (a b : Nat) : back (a ^^^ b) = back a ^^^ back b := by
  unfold back
  have h := xor_mod2 a b
  rcases Nat.mod_two_eq_zero_or_one a with ha | ha <;> rcases Nat.mod_two_eq_zero_or_one b with hb | hb <;> rw [ha, hb] at h <;> simp [h, ha, hb]
theorem step_xor (c d a b : Nat) : step (c ^^^ d) (a ^^^ b) = step c a ^^^ step d b := by
  unfold step
  rw [xor_div2, show (c ^^^ d) ^^^ (a ^^^ b) = (c ^^^ a) ^^^ (d ^^^ b) by ac_rfl, back_xor]
  ac_rfl
theorem poly_lt : poly < 2 ^ 32 := by decide
theorem back_lt (c : Nat) : back c < 2 ^ 32 := by
  unfold back
  split
  · exact poly_lt
  · decide
theorem step_lt {c : Nat} (h : c < 2 ^ 32) (b : Nat) : step c b < 2 ^ 32 := Nat.xor_lt_two_pow (by omega) (back_lt _)
theorem step_bit (c b : Nat) (hb : b < 2) : step c b = step (c ^^^ b) 0 := by
  unfold step
  rw [xor_div2, Nat.xor_zero, show b / 2 = 0 by omega, Nat.xor_zero]
/-- With no bit nothing is lost. -/
theorem step_ne {c : Nat} (h : c < 2 ^ 32) (h0 : c ≠ 0) : step c 0 ≠ 0 := by
  unfold step back
  rw [Nat.xor_zero]
  by_cases e : c % 2 = 1
  · rw [if_pos e]
    intro hx
    have h1 : c / 2 = poly := Gf.eq_of_xor hx
    unfold poly at h1
    omega
  · rw [if_neg e, Nat.xor_zero]
    omega
/-- The remainder over the first p bits. -/
def crcTo (f : Nat → Nat) (c : Nat) : Nat → Nat
  | 0 => c
  | p + 1 => step (crcTo f c p) (f p)
theorem crcTo_lt {f : Nat → Nat} {c : Nat} (h : c < 2 ^ 32) : ∀ p, crcTo f c p < 2 ^ 32
  | 0 => h
  | p + 1 => step_lt (crcTo_lt h p) _
theorem crcTo_xor (f g : Nat → Nat) (c d : Nat) : ∀ p, crcTo (fun i => f i ^^^ g i) (c ^^^ d) p = crcTo f c p ^^^ crcTo g d p
  | 0 => rfl
  | p + 1 => by
    show step (crcTo (fun i => f i ^^^ g i) (c ^^^ d) p) (f p ^^^ g p) = _
    rw [crcTo_xor f g c d p, step_xor]
    rfl
theorem crcTo_add (f : Nat → Nat) (c p : Nat) : ∀ q, crcTo f c (p + q) = crcTo (fun i => f (p + i)) (crcTo f c p) q
  | 0 => rfl
  | q + 1 => by
    show step (crcTo f c (p + q)) (f (p + q)) = step (crcTo (fun i => f (p + i)) (crcTo f c p) q) (f (p + q))
    rw [crcTo_add f c p q]
theorem crcTo_congr {f g : Nat → Nat} {c : Nat} : ∀ p, (∀ i, i < p → f i = g i) → crcTo f c p = crcTo g c p
  | 0, _ => rfl
  | p + 1, h => by
    show step (crcTo f c p) (f p) = step (crcTo g c p) (g p)
    rw [crcTo_congr p (fun i hi => h i (by omega)), h p (by omega)]
def zs (m x : Nat) : Nat := crcTo (fun _ => 0) x m
theorem zs_xor (m x y : Nat) : zs m (x ^^^ y) = zs m x ^^^ zs m y := by
  have h := crcTo_xor (fun _ => 0) (fun _ => 0) x y m
  unfold zs
  rw [← h]
  exact crcTo_congr m (fun _ _ => rfl)
theorem zs_ne {x : Nat} (h : x < 2 ^ 32) (h0 : x ≠ 0) : ∀ m, zs m x ≠ 0
  | 0 => h0
  | m + 1 => step_ne (crcTo_lt h m) (zs_ne h h0 m)
theorem zs_zero : ∀ m, zs m 0 = 0
  | 0 => rfl
  | m + 1 => by
    show step (zs m 0) 0 = 0
    rw [zs_zero m]
    decide
theorem step_even (x : Nat) : step (2 * x) 0 = x := by
  unfold step back
  rw [Nat.xor_zero, if_neg (by omega), Nat.xor_zero]
  omega
theorem zs_step (m x : Nat) : zs (m + 1) x = zs m (step x 0) := by
  have := crcTo_add (fun _ => 0) x 1 m
  unfold zs
  rw [Nat.add_comm m 1, this]
  exact crcTo_congr m (fun _ _ => rfl)
theorem zs_pow (b : Nat) : ∀ m, zs m (2 ^ m * b) = b
  | 0 => by show 2 ^ 0 * b = b; omega
  | m + 1 => by
    rw [zs_step, show 2 ^ (m + 1) * b = 2 * (2 ^ m * b) by rw [Nat.pow_succ]; ac_rfl, step_even]
    exact zs_pow b m
/-- m bits as a number, the first the lowest. -/
def num (f : Nat → Nat) : Nat → Nat
  | 0 => 0
  | m + 1 => num f m ^^^ 2 ^ m * f m
theorem num_lt {f : Nat → Nat} (hf : ∀ i, f i < 2) : ∀ m, num f m < 2 ^ m
  | 0 => by show 0 < 2 ^ 0; decide
  | m + 1 => by
    show num f m ^^^ 2 ^ m * f m < 2 ^ (m + 1)
    have h1 := num_lt hf m
    have h2 := hf m
    have h3 : 2 ^ (m + 1) = 2 * 2 ^ m := by rw [Nat.pow_succ]; omega
    have h4 : 2 ^ m * f m < 2 ^ (m + 1) := by
      rcases (show f m = 0 ∨ f m = 1 by omega) with e | e <;> rw [e] <;> omega
    exact Nat.xor_lt_two_pow (by omega) h4
theorem num_ne {f : Nat → Nat} (hf : ∀ i, f i < 2) : ∀ m, (∃ i, i < m ∧ f i ≠ 0) → num f m ≠ 0
  | 0, ⟨_, h, _⟩ => absurd h (Nat.not_lt_zero _)
  | m + 1, ⟨i, hi, hne⟩ => by
    show num f m ^^^ 2 ^ m * f m ≠ 0
    intro hx
    have hx' := Gf.eq_of_xor hx
    have hlt := num_lt hf m
    have h2 := hf m
    rcases (show f m = 0 ∨ f m = 1 by omega) with e | e
    · rw [e, Nat.mul_zero] at hx'
      refine num_ne hf m ⟨i, ?_, hne⟩ hx'
      rcases Nat.lt_succ_iff_lt_or_eq.1 hi with h | h
      · exact h
      · rw [h, e] at hne; exact absurd rfl hne
    · rw [e] at hx'
      omega
/-- Bits that come in one by one, or at once. -/
theorem crcTo_num {f : Nat → Nat} (hf : ∀ i, f i < 2) (c : Nat) : ∀ m, crcTo f c m = zs m (c ^^^ num f m)
  | 0 => by show c = c ^^^ 0; rw [Nat.xor_zero]
  | m + 1 => by
    show step (crcTo f c m) (f m) = step (zs m (c ^^^ (num f m ^^^ 2 ^ m * f m))) 0
    rw [step_bit _ _ (hf m), crcTo_num hf c m, ← Nat.xor_assoc, zs_xor m (c ^^^ num f m), zs_pow]
/-- A burst of at most 32 bits is seen. -/
theorem burst_seen {f g : Nat → Nat} (hf : ∀ i, f i < 2) (hg : ∀ i, g i < 2) (c n a : Nat) (h : ∀ p, p < n → f p ≠ g p → a ≤ p ∧ p < a + 32) (hne : ∃ p, p < n ∧ f p ≠ g p) : crcTo f c n ≠ crcTo g c n := by
  intro he
  have hd : crcTo (fun i => f i ^^^ g i) 0 n = 0 := by
    have := crcTo_xor f g c c n
    rw [Nat.xor_self] at this
    rw [this, he, Nat.xor_self]
  have hb : ∀ i, f i ^^^ g i < 2 := fun i => Nat.xor_lt_two_pow (n := 1) (hf i) (hg i)
  have hz : ∀ p, p < n → ¬ (a ≤ p ∧ p < a + 32) → f p ^^^ g p = 0 := fun p hp hno => by
    have : f p = g p := Classical.byContradiction fun hx => hno (h p hp hx)
    rw [this, Nat.xor_self]
  obtain ⟨q, hq, hqne⟩ := hne
  have haq := h q hq hqne
  have h0 : crcTo (fun i => f i ^^^ g i) 0 a = 0 := by
    rw [crcTo_congr (g := fun _ => 0) a (fun i hi => hz i (by omega) (by omega))]
    exact zs_zero a
  -- the window: m bits from a on
  obtain ⟨m, hm32, hmn, hqm, hrest⟩ : ∃ m, m ≤ 32 ∧ a + m ≤ n ∧ q < a + m ∧ ∀ p, a + m ≤ p → p < n → ¬ (a ≤ p ∧ p < a + 32) := by
    by_cases hc : a + 32 ≤ n
    · exact ⟨32, Nat.le_refl _, hc, haq.2, fun p h1 _ => by omega⟩
    · exact ⟨n - a, by omega, by omega, by omega, fun p h1 h2 => by omega⟩
  have h1 : crcTo (fun i => f i ^^^ g i) 0 (a + m) = zs m (num (fun i => f (a + i) ^^^ g (a + i)) m) := by
    rw [crcTo_add, h0, crcTo_num (fun i => hb (a + i)), Nat.zero_xor]
  have hnz : num (fun i => f (a + i) ^^^ g (a + i)) m ≠ 0 := num_ne (fun i => hb (a + i)) m ⟨q - a, by omega, by
    show f (a + (q - a)) ^^^ g (a + (q - a)) ≠ 0
    rw [show a + (q - a) = q by omega]
    exact Gf.xor_ne hqne⟩
  have hlt : num (fun i => f (a + i) ^^^ g (a + i)) m < 2 ^ 32 := Nat.lt_of_lt_of_le (num_lt (fun i => hb (a + i)) m) (Nat.pow_le_pow_right (by decide) hm32)
  have h2 : crcTo (fun i => f i ^^^ g i) 0 n = zs (n - (a + m)) (zs m (num (fun i => f (a + i) ^^^ g (a + i)) m)) := by
    rw [← h1]
    have := crcTo_add (fun i => f i ^^^ g i) 0 (a + m) (n - (a + m))
    rw [show a + m + (n - (a + m)) = n by omega] at this
    rw [this]
    exact crcTo_congr _ (fun i hi => hz (a + m + i) (by omega) (hrest _ (by omega) (by omega)))
  exact zs_ne (crcTo_lt hlt m) (zs_ne hlt hnz m) _ (h2.symm.trans hd)
end Go.Proofs.YteppmkpckdmnaaaDoor.Crc
