/- Lagrange, over the field of bytes: a polynomial with no more coefficients than there are places is told by its values at them. -/
import Derived.Test.YtmlcbphcphpihaaDoorGfPoly
namespace Go.Proofs.YtmlcbphcphpihaaDoor.Gf
theorem bytes_nil : Bytes [] := fun i => by simp [nth]
theorem bytes_cons {c : Nat} {r : List Nat} (hc : c < 256) (hr : Bytes r) : Bytes (c :: r) := fun i => by
  cases i with
  | zero => simpa [nth] using hc
  | succ i => simpa [nth] using hr i
theorem bytes_head {c : Nat} {r : List Nat} (h : Bytes (c :: r)) : c < 256 := by simpa [nth] using h 0
theorem xor_left_comm (a b c d : Nat) : (a ^^^ b) ^^^ (c ^^^ d) = (a ^^^ c) ^^^ (b ^^^ d) := by ac_rfl
theorem eq_of_xor {a b : Nat} (h : a ^^^ b = 0) : a = b := by
  have : (a ^^^ b) ^^^ b = b := by rw [h, Nat.zero_xor]
  rw [Nat.xor_assoc, Nat.xor_self, Nat.xor_zero] at this
  exact this
theorem xor_ne {a b : Nat} (h : a ≠ b) : a ^^^ b ≠ 0 := fun e => h (eq_of_xor e)
def padd : List Nat → List Nat → List Nat
  | [], b => b
  | x :: a, [] => x :: a
  | x :: a, y :: b => (x ^^^ y) :: padd a b
theorem padd_bytes : ∀ a b : List Nat, Bytes a → Bytes b → Bytes (padd a b)
  | [], _, _, hb => hb
  | _ :: _, [], ha, _ => ha
  | _ :: a, _ :: b, ha, hb => bytes_cons (xlt (bytes_head ha) (bytes_head hb)) (padd_bytes a b ha.tail hb.tail)
theorem padd_length : ∀ (a b : List Nat) (n : Nat), a.length ≤ n → b.length ≤ n → (padd a b).length ≤ n
  | [], _, _, _, hb => hb
  | _ :: _, [], _, ha, _ => ha
  | _ :: a, _ :: b, n, ha, hb => by
    cases n with
    | zero => simp at ha
    | succ n => simp only [List.length_cons, Nat.add_le_add_iff_right] at ha hb; simp only [padd, List.length_cons, Nat.add_le_add_iff_right]; exact padd_length a b n ha hb
theorem horner_padd (x : Nat) : ∀ a b : List Nat, Bytes a → Bytes b → horner x (padd a b) = horner x a ^^^ horner x b
  | [], b, _, _ => by show horner x b = 0 ^^^ horner x b; rw [Nat.zero_xor]
  | c :: a, [], _, _ => by show horner x (c :: a) = horner x (c :: a) ^^^ 0; rw [Nat.xor_zero]
  | c :: a, d :: b, ha, hb => by
    show mul (horner x (padd a b)) x ^^^ (c ^^^ d) = (mul (horner x a) x ^^^ c) ^^^ (mul (horner x b) x ^^^ d)
    rw [horner_padd x a b ha.tail hb.tail, mul_left _ _ _ (horner_lt x a ha.tail) (horner_lt x b hb.tail)]
    exact xor_left_comm _ _ _ _
def pscale (c : Nat) : List Nat → List Nat
  | [] => []
  | d :: r => mul c d :: pscale c r
theorem pscale_bytes {c : Nat} (hc : c < 256) : ∀ l : List Nat, Bytes (pscale c l)
  | [] => bytes_nil
  | d :: r => bytes_cons (mul_lt hc d) (pscale_bytes hc r)
theorem pscale_length (c : Nat) : ∀ l : List Nat, (pscale c l).length = l.length
  | [] => rfl
  | _ :: r => by simp [pscale, pscale_length c r]
theorem horner_pscale (c x : Nat) (hc : c < 256) : ∀ l : List Nat, Bytes l → horner x (pscale c l) = mul c (horner x l)
  | [], _ => (mul_zero c).symm
  | d :: r, h => by
    show mul (horner x (pscale c r)) x ^^^ mul c d = mul c (mul (horner x r) x ^^^ d)
    rw [horner_pscale c x hc r h.tail, mul_right, mul_assoc c _ x hc (horner_lt x r h.tail)]
/-- times (x + c). -/
def plin (l : List Nat) (c : Nat) : List Nat := padd (0 :: l) (pscale c l)
theorem plin_bytes {l : List Nat} {c : Nat} (h : Bytes l) (hc : c < 256) : Bytes (plin l c) := padd_bytes _ _ (bytes_cons (by decide) h) (pscale_bytes hc l)
theorem plin_length {l : List Nat} {c n : Nat} (h : l.length ≤ n) : (plin l c).length ≤ n + 1 := padd_length _ _ _ (by simpa using h) (by rw [pscale_length]; omega)
theorem horner_plin (l : List Nat) (c x : Nat) (h : Bytes l) (hc : c < 256) : horner x (plin l c) = mul (horner x l) (x ^^^ c) := by
  unfold plin
  rw [horner_padd x _ _ (bytes_cons (by decide) h) (pscale_bytes hc l), horner_pscale c x hc l h, mul_right, mul_comm c _ hc (horner_lt x l h)]
  show (mul (horner x l) x ^^^ 0) ^^^ _ = _
  rw [Nat.xor_zero]
/-- What is left of l by (x + r). -/
def pdiv (r : Nat) : List Nat → List Nat
  | [] => []
  | _ :: t => match t with
    | [] => []
    | _ :: _ => horner r t :: pdiv r t
theorem pdiv_bytes (r : Nat) : ∀ l : List Nat, Bytes l → Bytes (pdiv r l)
  | [], _ => bytes_nil
  | [_], _ => bytes_nil
  | _ :: d :: t, h => bytes_cons (horner_lt r _ h.tail) (pdiv_bytes r (d :: t) h.tail)
theorem pdiv_length (r : Nat) : ∀ (l : List Nat) (n : Nat), l.length ≤ n + 1 → (pdiv r l).length ≤ n
  | [], _, _ => Nat.zero_le _
  | [_], _, _ => Nat.zero_le _
  | _ :: d :: t, n, h => by
    cases n with
    | zero => simp at h
    | succ n =>
      have := pdiv_length r (d :: t) n (by simpa using h)
      simpa [pdiv] using this
theorem horner_pdiv (r x : Nat) (hr : r < 256) (hx : x < 256) : ∀ l : List Nat, Bytes l → horner x l = mul (horner x (pdiv r l)) (x ^^^ r) ^^^ horner r l
  | [], _ => by show 0 = mul 0 _ ^^^ 0; rw [zero_mul]; rfl
  | [c], _ => by show mul 0 x ^^^ c = mul 0 _ ^^^ (mul 0 r ^^^ c); rw [zero_mul, zero_mul, zero_mul]; simp
  | c :: d :: t, h => by
    have ih := horner_pdiv r x hr hx (d :: t) h.tail
    have hq := horner_lt x _ (pdiv_bytes r (d :: t) h.tail)
    have hh := horner_lt r _ h.tail
    show mul (horner x (d :: t)) x ^^^ c = mul (mul (horner x (pdiv r (d :: t))) x ^^^ horner r (d :: t)) (x ^^^ r) ^^^ (mul (horner r (d :: t)) r ^^^ c)
    rw [ih]
    generalize horner x (pdiv r (d :: t)) = q at hq
    generalize horner r (d :: t) = s at hh
    have hxr := xlt hx hr
    rw [mul_left _ _ _ (mul_lt hq _) hh, mul_left _ _ _ (mul_lt hq _) hh, mul_assoc q _ x hq hxr, mul_assoc q x _ hq hx, mul_comm (x ^^^ r) x hxr hx, mul_right s x r]
    have e : mul s r ^^^ mul s r = 0 := Nat.xor_self _
    have : mul q (mul x (x ^^^ r)) ^^^ (mul s x ^^^ mul s r) ^^^ (mul s r ^^^ c) = mul q (mul x (x ^^^ r)) ^^^ mul s x ^^^ c ^^^ (mul s r ^^^ mul s r) := by ac_rfl
    rw [this, e, Nat.xor_zero]
theorem no_zero {a b : Nat} (ha : a < 256) (hb : b < 256) (h0 : b ≠ 0) (h : mul a b = 0) : a = 0 := by
  have h1 : mul (mul a b) (inv b) = a := by rw [mul_assoc a b _ ha hb, mul_inv b hb h0, mul_one]
  rw [h, zero_mul] at h1
  exact h1.symm
theorem roots : ∀ (rs l : List Nat), Bytes l → l.length ≤ rs.length → rs.Nodup → (∀ r ∈ rs, r < 256 ∧ horner r l = 0) → ∀ x, x < 256 → horner x l = 0
  | [], l, _, hlen, _, _, x, _ => by
    have : l = [] := List.length_eq_zero_iff.1 (by simpa using hlen)
    rw [this]; rfl
  | r :: rs, l, hl, hlen, hn, hz, x, hx => by
    have hr := hz r (List.mem_cons_self ..)
    have hq := pdiv_bytes r l hl
    have hd : ∀ y, y < 256 → horner y l = mul (horner y (pdiv r l)) (y ^^^ r) := fun y hy => by
      rw [horner_pdiv r y hr.1 hy l hl, hr.2, Nat.xor_zero]
    have key := roots rs (pdiv r l) hq (pdiv_length r l _ (by simpa using hlen)) (List.nodup_cons.1 hn).2 (fun s hs => by
      have h1 := hz s (List.mem_cons_of_mem _ hs)
      refine ⟨h1.1, ?_⟩
      have h2 := hd s h1.1
      rw [h1.2] at h2
      refine no_zero (horner_lt s _ hq) (xlt h1.1 hr.1) (xor_ne ?_) h2.symm
      intro e
      rw [e] at hs
      exact (List.nodup_cons.1 hn).1 hs) x hx
    rw [hd x hx, key, zero_mul]
def prodPoly (xs : List Nat) (i : Nat) : Nat → List Nat
  | 0 => [1]
  | k + 1 => if k = i then prodPoly xs i k else plin (prodPoly xs i k) (nth xs k)
theorem prodPoly_bytes (xs : List Nat) (hx : Bytes xs) (i : Nat) : ∀ k, Bytes (prodPoly xs i k)
  | 0 => bytes_cons (by decide) bytes_nil
  | k + 1 => by
    unfold prodPoly
    split
    · exact prodPoly_bytes xs hx i k
    · exact plin_bytes (prodPoly_bytes xs hx i k) (hx k)
theorem prodPoly_length (xs : List Nat) (i : Nat) : ∀ k, (prodPoly xs i k).length ≤ k + 1 - (if i < k then 1 else 0)
  | 0 => by simp [prodPoly]
  | k + 1 => by
    have ih := prodPoly_length xs i k
    unfold prodPoly
    split
    · rename_i e
      subst e
      rw [if_neg (Nat.lt_irrefl _)] at ih
      rw [if_pos (Nat.lt_succ_self _)]
      omega
    · rename_i e
      by_cases h : i < k
      · rw [if_pos h] at ih
        rw [if_pos (by omega)]
        have := plin_length (c := nth xs k) ih
        omega
      · rw [if_neg h] at ih
        rw [if_neg (by omega)]
        have := plin_length (c := nth xs k) ih
        omega
theorem horner_prodPoly (xs : List Nat) (hx : Bytes xs) (i x : Nat) : ∀ k, horner x (prodPoly xs i k) = prodAt xs i x k
  | 0 => by show mul 0 x ^^^ 1 = 1; rw [zero_mul]; rfl
  | k + 1 => by
    unfold prodPoly prodAt
    split
    · exact horner_prodPoly xs hx i x k
    · rw [horner_plin _ _ _ (prodPoly_bytes xs hx i k) (hx k), horner_prodPoly xs hx i x k]
def coef (xs ys : List Nat) (k : Nat) : Nat := mul (nth ys k) (inv (prodAt xs k (nth xs k) xs.length))
def lagrPoly (xs ys : List Nat) : Nat → List Nat
  | 0 => []
  | k + 1 => padd (lagrPoly xs ys k) (pscale (coef xs ys k) (prodPoly xs k xs.length))
theorem coef_lt (xs ys : List Nat) (hy : Bytes ys) (k : Nat) : coef xs ys k < 256 := mul_lt (hy k) _
theorem lagrPoly_bytes (xs ys : List Nat) (hy : Bytes ys) : ∀ k, Bytes (lagrPoly xs ys k)
  | 0 => bytes_nil
  | k + 1 => padd_bytes _ _ (lagrPoly_bytes xs ys hy k) (pscale_bytes (coef_lt xs ys hy k) _)
theorem lagrPoly_length (xs ys : List Nat) : ∀ k, k ≤ xs.length → (lagrPoly xs ys k).length ≤ xs.length
  | 0, _ => Nat.zero_le _
  | k + 1, h => by
    refine padd_length _ _ _ (lagrPoly_length xs ys k (by omega)) ?_
    rw [pscale_length]
    have := prodPoly_length xs k xs.length
    rw [if_pos (by omega)] at this
    omega
theorem horner_lagrPoly (xs ys : List Nat) (hx : Bytes xs) (hy : Bytes ys) (x : Nat) : ∀ k, horner x (lagrPoly xs ys k) = lagr xs ys x k
  | 0 => rfl
  | k + 1 => by
    show horner x (padd _ _) = lagr xs ys x k ^^^ mul (nth ys k) (shareOf xs k x)
    rw [horner_padd x _ _ (lagrPoly_bytes xs ys hy k) (pscale_bytes (coef_lt xs ys hy k) _), horner_lagrPoly xs ys hx hy x k, horner_pscale _ x (coef_lt xs ys hy k) _ (prodPoly_bytes xs hx k _), horner_prodPoly xs hx k x]
    unfold coef shareOf
    rw [mul_assoc _ _ _ (hy k) (inv_lt _), mul_comm (inv _) _ (inv_lt _) (prodAt_lt _ _ _ _)]
theorem prodAt_zero (xs : List Nat) (i j : Nat) (hij : j ≠ i) : ∀ k, j < k → prodAt xs i (nth xs j) k = 0
  | 0, h => absurd h (Nat.not_lt_zero _)
  | k + 1, h => by
    unfold prodAt
    split
    · rename_i e
      exact prodAt_zero xs i j hij k (by omega)
    · by_cases e : j = k
      · subst e
        rw [Nat.xor_self, mul_zero]
      · rw [prodAt_zero xs i j hij k (by omega), zero_mul]
theorem nth_inj (xs : List Nat) (hn : xs.Nodup) {i j : Nat} (hi : i < xs.length) (hj : j < xs.length) (h : nth xs i = nth xs j) : i = j := by
  rw [nth_getElem xs i hi, nth_getElem xs j hj] at h
  have hp := List.pairwise_iff_getElem.1 hn
  rcases Nat.lt_trichotomy i j with h' | h' | h'
  · exact absurd h (hp i j hi hj h')
  · exact h'
  · exact absurd h.symm (hp j i hj hi h')
theorem mul_ne {a b : Nat} (ha : a < 256) (hb : b < 256) (h1 : a ≠ 0) (h2 : b ≠ 0) : mul a b ≠ 0 := fun h => h1 (no_zero ha hb h2 h)
theorem prodAt_ne (xs : List Nat) (hx : Bytes xs) (hn : xs.Nodup) (i : Nat) (hi : i < xs.length) : ∀ k, k ≤ xs.length → prodAt xs i (nth xs i) k ≠ 0
  | 0, _ => by show (1 : Nat) ≠ 0; decide
  | k + 1, h => by
    unfold prodAt
    split
    · exact prodAt_ne xs hx hn i hi k (by omega)
    · rename_i e
      exact mul_ne (prodAt_lt _ _ _ _) (xlt (hx i) (hx k)) (prodAt_ne xs hx hn i hi k (by omega)) (xor_ne fun h' => e (nth_inj xs hn (by omega) hi h'.symm))
theorem share_self (xs : List Nat) (hx : Bytes xs) (hn : xs.Nodup) (i : Nat) (hi : i < xs.length) : shareOf xs i (nth xs i) = 1 :=
  mul_inv _ (prodAt_lt _ _ _ _) (prodAt_ne xs hx hn i hi _ (Nat.le_refl _))
theorem share_other (xs : List Nat) (i j : Nat) (hj : j < xs.length) (h : j ≠ i) : shareOf xs i (nth xs j) = 0 := by
  unfold shareOf
  rw [prodAt_zero xs i j h _ hj, zero_mul]
theorem lagr_at (xs ys : List Nat) (hx : Bytes xs) (hn : xs.Nodup) (j : Nat) (hj : j < xs.length) : ∀ k, k ≤ xs.length → lagr xs ys (nth xs j) k = if j < k then nth ys j else 0
  | 0, _ => by rw [if_neg (Nat.not_lt_zero _)]; rfl
  | k + 1, h => by
    unfold lagr
    rw [lagr_at xs ys hx hn j hj k (by omega)]
    by_cases e : j = k
    · subst e
      rw [if_neg (Nat.lt_irrefl _), if_pos (Nat.lt_succ_self _), share_self xs hx hn j hj, mul_one, Nat.zero_xor]
    · rw [share_other xs k j hj e, mul_zero, Nat.xor_zero]
      by_cases h' : j < k
      · rw [if_pos h', if_pos (by omega)]
      · rw [if_neg h', if_neg (by omega)]
/-- LAGRANGE. -/
theorem through (p xs ys : List Nat) (hp : Bytes p) (hx : Bytes xs) (hy : Bytes ys) (hn : xs.Nodup) (hlen : p.length ≤ xs.length) (hv : ∀ j, j < xs.length → nth ys j = horner (nth xs j) p) (x : Nat) (hx' : x < 256) :
    lagr xs ys x xs.length = horner x p := by
  have hb := lagrPoly_bytes xs ys hy xs.length
  have h0 := roots xs (padd (lagrPoly xs ys xs.length) p) (padd_bytes _ _ hb hp) (padd_length _ _ _ (lagrPoly_length xs ys _ (Nat.le_refl _)) hlen) hn (fun r hr => by
    obtain ⟨j, hj, rfl⟩ := List.getElem_of_mem hr
    rw [← nth_getElem xs j hj]
    refine ⟨hx j, ?_⟩
    rw [horner_padd _ _ _ hb hp, horner_lagrPoly xs ys hx hy, lagr_at xs ys hx hn j hj _ (Nat.le_refl _), if_pos hj, hv j hj, Nat.xor_self]) x hx'
  rw [horner_padd x _ _ hb hp, horner_lagrPoly xs ys hx hy] at h0
  exact eq_of_xor h0
end Go.Proofs.YtmlcbphcphpihaaDoor.Gf
