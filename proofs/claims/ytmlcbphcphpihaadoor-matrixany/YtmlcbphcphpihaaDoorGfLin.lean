/- Linear algebra over the field of bytes: sums, spans, independence, the exchange of Steinitz, rank, and inverses of square matrices from both sides. Vectors are functions of a number, matrices of two. -/
import Derived.Test.YtmlcbphcphpihaaDoorGfLagr
namespace Go.Proofs.YtmlcbphcphpihaaDoor.Lin
abbrev F := Fin 256
def ad (a b : F) : F := ⟨a.1 ^^^ b.1, Gf.xlt a.2 b.2⟩
def mu (a b : F) : F := ⟨Gf.mul a.1 b.1, Gf.mul_lt a.2 _⟩
def iv (a : F) : F := ⟨Gf.inv a.1, Gf.inv_lt _⟩
theorem ad_comm (a b : F) : ad a b = ad b a := Fin.ext (Nat.xor_comm _ _)
theorem ad_assoc (a b c : F) : ad (ad a b) c = ad a (ad b c) := Fin.ext (Nat.xor_assoc _ _ _)
theorem ad_zero (a : F) : ad a 0 = a := Fin.ext (Nat.xor_zero _)
theorem zero_ad (a : F) : ad 0 a = a := Fin.ext (Nat.zero_xor _)
theorem ad_self (a : F) : ad a a = 0 := Fin.ext (Nat.xor_self _)
theorem eq_of_ad {a b : F} (h : ad a b = 0) : a = b := Fin.ext (Gf.eq_of_xor (congrArg Fin.val h))
theorem ad_left_comm (a b c : F) : ad a (ad b c) = ad b (ad a c) := by rw [← ad_assoc, ad_comm a b, ad_assoc]
theorem ad_four (a b c d : F) : ad (ad a b) (ad c d) = ad (ad a c) (ad b d) := by rw [ad_assoc, ad_left_comm b c d, ← ad_assoc]
theorem ad_cancel (a b : F) : ad a (ad a b) = b := by rw [← ad_assoc, ad_self, zero_ad]
theorem mu_comm (a b : F) : mu a b = mu b a := Fin.ext (Gf.mul_comm _ _ a.2 b.2)
theorem mu_assoc (a b c : F) : mu (mu a b) c = mu a (mu b c) := Fin.ext (Gf.mul_assoc _ _ _ a.2 b.2)
theorem mu_ad (a b c : F) : mu a (ad b c) = ad (mu a b) (mu a c) := Fin.ext (Gf.mul_right _ _ _)
theorem ad_mu (a b c : F) : mu (ad a b) c = ad (mu a c) (mu b c) := Fin.ext (Gf.mul_left _ _ _ a.2 b.2)
theorem mu_zero (a : F) : mu a 0 = 0 := Fin.ext (Gf.mul_zero a.1)
theorem zero_mu (a : F) : mu 0 a = 0 := Fin.ext (Gf.zero_mul a.1)
theorem mu_one (a : F) : mu a 1 = a := Fin.ext (Gf.mul_one a.1)
theorem one_mu (a : F) : mu 1 a = a := by rw [mu_comm, mu_one]
theorem mu_iv (a : F) (h : a ≠ 0) : mu a (iv a) = 1 := Fin.ext (Gf.mul_inv a.1 a.2 (fun e => h (Fin.ext e)))
theorem iv_mu (a : F) (h : a ≠ 0) : mu (iv a) a = 1 := by rw [mu_comm, mu_iv a h]
theorem one_ne : (1 : F) ≠ 0 := by decide
theorem mu_ne {a b : F} (h1 : a ≠ 0) (h2 : b ≠ 0) : mu a b ≠ 0 := fun h => h1 (by
  have : mu (mu a b) (iv b) = a := by rw [mu_assoc, mu_iv b h2, mu_one]
  rw [h, zero_mu] at this
  exact this.symm)
/-- Sums. -/
def fsum : Nat → (Nat → F) → F
  | 0, _ => 0
  | k + 1, f => ad (fsum k f) (f k)
theorem fsum_congr {f g : Nat → F} : ∀ {k : Nat}, (∀ i, i < k → f i = g i) → fsum k f = fsum k g
  | 0, _ => rfl
  | k + 1, h => by show ad _ _ = ad _ _; rw [fsum_congr (fun i hi => h i (by omega)), h k (by omega)]
theorem fsum_zero {f : Nat → F} : ∀ {k : Nat}, (∀ i, i < k → f i = 0) → fsum k f = 0
  | 0, _ => rfl
  | k + 1, h => by show ad _ _ = 0; rw [fsum_zero (fun i hi => h i (by omega)), h k (by omega), ad_zero]
theorem fsum_ad (f g : Nat → F) : ∀ k, fsum k (fun i => ad (f i) (g i)) = ad (fsum k f) (fsum k g)
  | 0 => (ad_zero 0).symm
  | k + 1 => by show ad _ _ = ad (ad _ _) (ad _ _); rw [fsum_ad f g k, ad_four]
theorem fsum_mu (c : F) (f : Nat → F) : ∀ k, fsum k (fun i => mu c (f i)) = mu c (fsum k f)
  | 0 => (mu_zero c).symm
  | k + 1 => by show ad _ _ = mu c (ad _ _); rw [fsum_mu c f k, mu_ad]
theorem fsum_mu_right (c : F) (f : Nat → F) (k : Nat) : fsum k (fun i => mu (f i) c) = mu (fsum k f) c := by
  rw [mu_comm, ← fsum_mu]
  exact fsum_congr fun i _ => mu_comm _ _
theorem fsum_swap (f : Nat → Nat → F) (l : Nat) : ∀ k, fsum k (fun i => fsum l (fun j => f i j)) = fsum l (fun j => fsum k (fun i => f i j))
  | 0 => (fsum_zero fun _ _ => rfl).symm
  | k + 1 => by
    show ad (fsum k _) (fsum l _) = _
    rw [fsum_swap f l k, ← fsum_ad]
    rfl
theorem fsum_one (p : Nat) (f : Nat → F) : ∀ k, p < k → (∀ i, i < k → i ≠ p → f i = 0) → fsum k f = f p
  | 0, h, _ => absurd h (Nat.not_lt_zero _)
  | k + 1, h, hz => by
    show ad (fsum k f) (f k) = f p
    by_cases e : p = k
    · subst e
      rw [fsum_zero (fun i hi => hz i (by omega) (by omega)), zero_ad]
    · rw [fsum_one p f k (by omega) (fun i hi => hz i (by omega)), hz k (by omega) (fun e' => e e'.symm), ad_zero]
/-- All but one. -/
def skip (p i : Nat) : Nat := if i < p then i else i + 1
theorem skip_ne (p i : Nat) : skip p i ≠ p := by unfold skip; split <;> omega
theorem skip_lt {p i k : Nat} (h : i < k) : skip p i < k + 1 := by unfold skip; split <;> omega
theorem fsum_skip (p : Nat) (f : Nat → F) : ∀ k, p < k + 1 → fsum (k + 1) f = ad (f p) (fsum k (fun i => f (skip p i)))
  | 0, h => by
    obtain rfl : p = 0 := by omega
    show ad 0 (f 0) = ad (f 0) 0
    rw [zero_ad, ad_zero]
  | k + 1, h => by
    by_cases e : p = k + 1
    · subst e
      show ad (fsum (k + 1) f) (f (k + 1)) = _
      rw [ad_comm]
      congr 1
      exact fsum_congr fun i hi => by unfold skip; rw [if_pos hi]
    · show ad (fsum (k + 1) f) (f (k + 1)) = ad (f p) (ad (fsum k fun i => f (skip p i)) (f (skip p k)))
      rw [fsum_skip p f k (by omega), show skip p k = k + 1 from by unfold skip; rw [if_neg (by omega)], ad_assoc]
/-- More unknowns than equations: not only zeros. -/
theorem homog : ∀ (s r : Nat), s < r → ∀ a : Nat → Nat → F, ∃ c : Nat → F, (∃ i, i < r ∧ c i ≠ 0) ∧ ∀ j, j < s → fsum r (fun i => mu (c i) (a i j)) = 0
  | 0, r, h, _ => ⟨fun _ => 1, ⟨0, h, one_ne⟩, fun j hj => absurd hj (Nat.not_lt_zero _)⟩
  | s + 1, r, h, a => by
    by_cases hp : ∃ p, p < r ∧ a p s ≠ 0
    · obtain ⟨p, hpr, hps⟩ := hp
      obtain ⟨k, rfl⟩ : ∃ k, r = k + 1 := ⟨r - 1, by omega⟩
      obtain ⟨c, ⟨i0, hi0, hc0⟩, hc⟩ := homog s k (by omega) (fun i j => ad (a (skip p i) j) (mu (mu (a (skip p i) s) (iv (a p s))) (a p j)))
      let cp : F := fsum k (fun i => mu (c i) (mu (a (skip p i) s) (iv (a p s))))
      let d : Nat → F := fun i => if i = p then cp else c (if i < p then i else i - 1)
      have dp : d p = cp := if_pos rfl
      have ds : ∀ i, d (skip p i) = c i := by
        intro i
        show (if skip p i = p then cp else _) = _
        rw [if_neg (skip_ne p i)]
        congr 1
        by_cases hip : i < p
        · rw [show skip p i = i from if_pos hip, if_pos hip]
        · rw [show skip p i = i + 1 from if_neg hip, if_neg (by omega)]; omega
      have key : ∀ j, fsum (k + 1) (fun i => mu (d i) (a i j)) = fsum k (fun i => mu (c i) (ad (a (skip p i) j) (mu (mu (a (skip p i) s) (iv (a p s))) (a p j)))) := by
        intro j
        rw [fsum_skip p _ k hpr, dp]
        have e1 : fsum k (fun i => mu (d (skip p i)) (a (skip p i) j)) = fsum k (fun i => mu (c i) (a (skip p i) j)) := fsum_congr fun i _ => by rw [ds i]
        have e2 : mu cp (a p j) = fsum k (fun i => mu (c i) (mu (mu (a (skip p i) s) (iv (a p s))) (a p j))) := by
          show mu (fsum k _) (a p j) = _
          rw [← fsum_mu_right]
          exact fsum_congr fun i _ => by rw [mu_assoc, mu_assoc]
        rw [e1, e2, ad_comm, ← fsum_ad]
        exact fsum_congr fun i _ => by rw [mu_ad]
      refine ⟨d, ⟨skip p i0, skip_lt hi0, by rw [ds i0]; exact hc0⟩, fun j hj => ?_⟩
      rw [key j]
      by_cases e : j = s
      · subst e
        refine fsum_zero fun i _ => ?_
        rw [mu_assoc (a (skip p i) j), iv_mu _ hps, mu_one, ad_self, mu_zero]
      · exact hc j (by omega)
    · obtain ⟨c, hc0, hc⟩ := homog s r (by omega) a
      refine ⟨c, hc0, fun j hj => ?_⟩
      by_cases e : j = s
      · subst e
        refine fsum_zero fun i hi => ?_
        have : a i j = 0 := Classical.byContradiction fun h' => hp ⟨i, hi, h'⟩
        rw [this, mu_zero]
      · exact hc j (by omega)
/-- u comes from v's first k. -/
def InSpan (n k : Nat) (v : Nat → Nat → F) (u : Nat → F) : Prop := ∃ c : Nat → F, ∀ j, j < n → u j = fsum k (fun i => mu (c i) (v i j))
/-- None of v's first k comes from the others. -/
def Indep (n k : Nat) (v : Nat → Nat → F) : Prop := ∀ c : Nat → F, (∀ j, j < n → fsum k (fun i => mu (c i) (v i j)) = 0) → ∀ i, i < k → c i = 0
theorem choose_coefs {n r s : Nat} {u v : Nat → Nat → F} (h : ∀ i, i < r → InSpan n s v (u i)) : ∃ a : Nat → Nat → F, ∀ i, i < r → ∀ j, j < n → u i j = fsum s (fun l => mu (a i l) (v l j)) := by
  have h' : ∀ i, ∃ c : Nat → F, i < r → ∀ j, j < n → u i j = fsum s (fun l => mu (c l) (v l j)) := fun i => by
    by_cases hi : i < r
    · obtain ⟨c, hc⟩ := h i hi
      exact ⟨c, fun _ => hc⟩
    · exact ⟨fun _ => 0, fun h => absurd h hi⟩
  exact ⟨fun i => Classical.choose (h' i), fun i hi => Classical.choose_spec (h' i) hi⟩
/-- STEINITZ. -/
theorem steinitz {n r s : Nat} {u v : Nat → Nat → F} (hu : Indep n r u) (h : ∀ i, i < r → InSpan n s v (u i)) : r ≤ s := by
  refine Classical.byContradiction fun hrs => ?_
  obtain ⟨a, ha⟩ := choose_coefs h
  obtain ⟨c, ⟨i0, hi0, hc0⟩, hc⟩ := homog s r (by omega) a
  refine hc0 (hu c (fun j hj => ?_) i0 hi0)
  have e1 : fsum r (fun i => mu (c i) (u i j)) = fsum r (fun i => fsum s (fun l => mu (mu (c i) (a i l)) (v l j))) := fsum_congr fun i hi => by
    rw [ha i hi j hj, ← fsum_mu]
    exact fsum_congr fun l _ => (mu_assoc _ _ _).symm
  rw [e1, fsum_swap]
  refine fsum_zero fun l hl => ?_
  rw [fsum_mu_right, hc l hl, zero_mu]
/-- Leads that go down by steps: independent. -/
theorem indep_of_leads {n k : Nat} {v : Nat → Nat → F} (at_ : Nat → Nat) (hn : ∀ i, i < k → at_ i < n) (h1 : ∀ i, i < k → v i (at_ i) ≠ 0) (h0 : ∀ i j, i < j → j < k → v j (at_ i) = 0) : Indep n k v := by
  intro c hc
  have key : ∀ m, ∀ i, i < m → i < k → c i = 0 := by
    intro m
    induction m with
    | zero => intro i hi; exact absurd hi (Nat.not_lt_zero _)
    | succ m ih =>
      intro i hi hik
      by_cases e : i < m
      · exact ih i e hik
      · obtain rfl : i = m := by omega
        have hz := hc (at_ i) (hn i hik)
        rw [fsum_one i _ k hik] at hz
        · refine Classical.byContradiction fun h => mu_ne h (h1 i hik) hz
        · intro j hj hji
          by_cases hlt : j < i
          · rw [ih j hlt hj, zero_mu]
          · rw [h0 i j (by omega) hj, mu_zero]
  exact fun i hi => key k i hi hi
/-- r is the rank of v's first k. -/
def IsRank (n k : Nat) (v : Nat → Nat → F) (r : Nat) : Prop := ∃ b : Nat → Nat → F, Indep n r b ∧ (∀ i, i < r → InSpan n k v (b i)) ∧ ∀ i, i < k → InSpan n r b (v i)
theorem span_trans {n k l : Nat} {v w : Nat → Nat → F} {u : Nat → F} (h1 : InSpan n k v u) (h2 : ∀ i, i < k → InSpan n l w (v i)) : InSpan n l w u := by
  obtain ⟨c, hc⟩ := h1
  obtain ⟨a, ha⟩ := choose_coefs h2
  refine ⟨fun m => fsum k (fun i => mu (c i) (a i m)), fun j hj => ?_⟩
  rw [hc j hj]
  have e1 : fsum k (fun i => mu (c i) (v i j)) = fsum k (fun i => fsum l (fun m => mu (mu (c i) (a i m)) (w m j))) := fsum_congr fun i hi => by
    rw [ha i hi j hj, ← fsum_mu]
    exact fsum_congr fun m _ => (mu_assoc _ _ _).symm
  rw [e1, fsum_swap]
  exact fsum_congr fun m _ => fsum_mu_right _ _ _
theorem span_self {n k : Nat} (v : Nat → Nat → F) {i : Nat} (hi : i < k) : InSpan n k v (v i) :=
  ⟨fun j => if j = i then 1 else 0, fun j _ => by
    rw [fsum_one i _ k hi]
    · show v i j = mu (if i = i then 1 else 0) (v i j); rw [if_pos rfl, one_mu]
    · intro l _ hli; show mu (if l = i then 1 else 0) (v l j) = 0; rw [if_neg hli, zero_mu]⟩
theorem span_mono {n k l : Nat} {v : Nat → Nat → F} {u : Nat → F} (h : InSpan n k v u) (hkl : k ≤ l) : InSpan n l v u :=
  span_trans h fun _ hi => span_self v (by omega)
theorem span_zero (n k : Nat) (v : Nat → Nat → F) : InSpan n k v (fun _ => 0) := ⟨fun _ => 0, fun _ _ => (fsum_zero fun _ _ => zero_mu _).symm⟩
theorem span_ad {n k : Nat} {v : Nat → Nat → F} {x y : Nat → F} (hx : InSpan n k v x) (hy : InSpan n k v y) : InSpan n k v (fun j => ad (x j) (y j)) := by
  obtain ⟨c, hc⟩ := hx
  obtain ⟨d, hd⟩ := hy
  refine ⟨fun i => ad (c i) (d i), fun j hj => ?_⟩
  show ad (x j) (y j) = _
  rw [hc j hj, hd j hj, ← fsum_ad]
  exact fsum_congr fun i _ => (ad_mu _ _ _).symm
theorem span_mu {n k : Nat} {v : Nat → Nat → F} {x : Nat → F} (hx : InSpan n k v x) (a : F) : InSpan n k v (fun j => mu a (x j)) := by
  obtain ⟨c, hc⟩ := hx
  refine ⟨fun i => mu a (c i), fun j hj => ?_⟩
  show mu a (x j) = _
  rw [hc j hj, ← fsum_mu]
  exact fsum_congr fun i _ => (mu_assoc _ _ _).symm
theorem span_congr {n k : Nat} {v w : Nat → Nat → F} {x y : Nat → F} (h : InSpan n k v x) (hv : ∀ i, i < k → ∀ j, j < n → v i j = w i j) (hx : ∀ j, j < n → x j = y j) : InSpan n k w y := by
  obtain ⟨c, hc⟩ := h
  exact ⟨c, fun j hj => by rw [← hx j hj, hc j hj]; exact fsum_congr fun i hi => by rw [hv i hi j hj]⟩
/-- There is but one rank. -/
theorem rank_unique {n k r s : Nat} {v : Nat → Nat → F} (hr : IsRank n k v r) (hs : IsRank n k v s) : r = s := by
  obtain ⟨b, hb1, hb2, hb3⟩ := hr
  obtain ⟨d, hd1, hd2, hd3⟩ := hs
  exact Nat.le_antisymm (steinitz hb1 fun i hi => span_trans (hb2 i hi) hd3) (steinitz hd1 fun i hi => span_trans (hd2 i hi) hb3)
/-- Products of matrices. -/
def mm (n : Nat) (a b : Nat → Nat → F) : Nat → Nat → F := fun i j => fsum n (fun k => mu (a i k) (b k j))
def one : Nat → Nat → F := fun i j => if i = j then 1 else 0
theorem mm_assoc (n l : Nat) (a b c : Nat → Nat → F) (i j : Nat) : mm l (mm n a b) c i j = mm n a (mm l b c) i j := by
  show fsum l (fun m => mu (fsum n (fun k => mu (a i k) (b k m))) (c m j)) = fsum n (fun k => mu (a i k) (fsum l (fun m => mu (b k m) (c m j))))
  have e1 : fsum l (fun m => mu (fsum n (fun k => mu (a i k) (b k m))) (c m j)) = fsum l (fun m => fsum n (fun k => mu (mu (a i k) (b k m)) (c m j))) := fsum_congr fun m _ => (fsum_mu_right _ _ _).symm
  have e2 : fsum n (fun k => mu (a i k) (fsum l (fun m => mu (b k m) (c m j)))) = fsum n (fun k => fsum l (fun m => mu (mu (a i k) (b k m)) (c m j))) := fsum_congr fun k _ => by
    rw [← fsum_mu]
    exact fsum_congr fun m _ => (mu_assoc _ _ _).symm
  rw [e1, e2, fsum_swap]
theorem mm_one (n : Nat) (a : Nat → Nat → F) (i j : Nat) (hj : j < n) : mm n a one i j = a i j := by
  show fsum n (fun k => mu (a i k) (one k j)) = _
  rw [fsum_one j _ n hj]
  · show mu (a i j) (if j = j then 1 else 0) = _
    rw [if_pos rfl, mu_one]
  · intro k _ hk; show mu (a i k) (if k = j then 1 else 0) = 0; rw [if_neg hk, mu_zero]
theorem one_mm (n : Nat) (a : Nat → Nat → F) (i j : Nat) (hi : i < n) : mm n one a i j = a i j := by
  show fsum n (fun k => mu (one i k) (a k j)) = _
  rw [fsum_one i _ n hi]
  · show mu (if i = i then 1 else 0) (a i j) = _
    rw [if_pos rfl, one_mu]
  · intro k _ hk; show mu (if i = k then 1 else 0) (a k j) = 0; rw [if_neg (fun e => hk e.symm), zero_mu]
theorem mm_congr (n : Nat) {a b c d : Nat → Nat → F} {i j : Nat} (h1 : ∀ k, k < n → a i k = c i k) (h2 : ∀ k, k < n → b k j = d k j) : mm n a b i j = mm n c d i j := fsum_congr fun k hk => by rw [h1 k hk, h2 k hk]
/-- The unit's rows are independent, and all comes from them. -/
theorem one_indep (n : Nat) : Indep n n one := indep_of_leads (fun i => i) (fun _ h => h) (fun i _ => by show (if i = i then (1 : F) else 0) ≠ 0; rw [if_pos rfl]; exact one_ne) (fun i j hij _ => by show (if j = i then (1 : F) else 0) = 0; rw [if_neg (by omega)])
theorem all_in_one (n : Nat) (u : Nat → F) : InSpan n n one u := ⟨u, fun j hj => by
  rw [fsum_one j _ n hj]
  · show u j = mu (u j) (if j = j then 1 else 0); rw [if_pos rfl, mu_one]
  · intro k _ hk; show mu (u k) (if k = j then 1 else 0) = 0; rw [if_neg hk, mu_zero]⟩
/-- n that are independent among vectors of n: all comes from them. -/
theorem span_of_indep {n : Nat} {v : Nat → Nat → F} (hv : Indep n n v) (u : Nat → F) : InSpan n n v u := by
  obtain ⟨c, ⟨i0, hi0, hc0⟩, hc⟩ := homog n (n + 1) (by omega) (fun i => if i < n then v i else u)
  have hsum : ∀ j, j < n → ad (fsum n (fun i => mu (c i) (v i j))) (mu (c n) (u j)) = 0 := by
    intro j hj
    have h := hc j hj
    have e : fsum (n + 1) (fun i => mu (c i) ((if i < n then v i else u) j)) = ad (fsum n (fun i => mu (c i) (v i j))) (mu (c n) (u j)) := by
      show ad (fsum n _) (mu (c n) ((if n < n then v n else u) j)) = _
      rw [if_neg (Nat.lt_irrefl n)]
      congr 1
      exact fsum_congr fun i hi => by rw [if_pos hi]
    rw [e] at h
    exact h
  by_cases hn : c n = 0
  · exfalso
    refine hc0 ?_
    have hz := hv c (fun j hj => by have := hsum j hj; rw [hn, zero_mu, ad_zero] at this; exact this)
    by_cases e : i0 < n
    · exact hz i0 e
    · obtain rfl : i0 = n := by omega
      exact hn
  · refine ⟨fun i => mu (iv (c n)) (c i), fun j hj => ?_⟩
    have h1 := eq_of_ad (hsum j hj)
    have h2 : fsum n (fun i => mu (mu (iv (c n)) (c i)) (v i j)) = mu (iv (c n)) (fsum n (fun i => mu (c i) (v i j))) := by
      rw [← fsum_mu]
      exact fsum_congr fun i _ => mu_assoc _ _ _
    rw [h2, h1, ← mu_assoc, iv_mu _ hn, one_mu]
/-- A left inverse's rows come from nothing less: m's rows are independent. -/
theorem indep_of_left {n : Nat} {x m : Nat → Nat → F} (h : ∀ i j, i < n → j < n → mm n x m i j = one i j) : Indep n n m := by
  intro c hc
  refine Classical.byContradiction fun hne => ?_
  have ⟨p, hp⟩ : ∃ p, p < n ∧ c p ≠ 0 := Classical.byContradiction fun h' => hne fun i hi => Classical.byContradiction fun h'' => h' ⟨i, hi, h''⟩
  obtain ⟨hpn, hcp⟩ := hp
  obtain ⟨k, rfl⟩ : ∃ k, n = k + 1 := ⟨n - 1, by omega⟩
  have hspan : ∀ i, i < k + 1 → InSpan (k + 1) k (fun i => m (skip p i)) (one i) := by
    intro i hi
    refine ⟨fun l => ad (x i (skip p l)) (mu (x i p) (mu (iv (c p)) (c (skip p l)))), fun j hj => ?_⟩
    have h1 := h i j hi hj
    rw [← h1]
    show fsum (k + 1) (fun l => mu (x i l) (m l j)) = _
    rw [fsum_skip p _ k hpn]
    have h2 := hc j hj
    rw [fsum_skip p _ k hpn] at h2
    have h3 : m p j = mu (iv (c p)) (fsum k (fun l => mu (c (skip p l)) (m (skip p l) j))) := by
      rw [← eq_of_ad h2, ← mu_assoc, iv_mu _ hcp, one_mu]
    have h4 : fsum k (fun l => mu (ad (x i (skip p l)) (mu (x i p) (mu (iv (c p)) (c (skip p l))))) (m (skip p l) j)) = ad (fsum k (fun l => mu (x i (skip p l)) (m (skip p l) j))) (mu (x i p) (mu (iv (c p)) (fsum k (fun l => mu (c (skip p l)) (m (skip p l) j))))) := by
      rw [← fsum_mu, ← fsum_mu, ← fsum_ad]
      exact fsum_congr fun l _ => by rw [ad_mu, mu_assoc, mu_assoc]
    rw [h4, ← h3, ad_comm]
  have := steinitz (one_indep (k + 1)) hspan
  omega
/-- A left inverse of a square matrix is a right one. -/
theorem right_of_left {n : Nat} {x m : Nat → Nat → F} (h : ∀ i j, i < n → j < n → mm n x m i j = one i j) : ∀ i j, i < n → j < n → mm n m x i j = one i j := by
  have hi := indep_of_left h
  intro i j hin hjn
  have key := hi (fun k => ad (mm n m x i k) (one i k)) (fun l hl => by
    have e1 : fsum n (fun k => mu (ad (mm n m x i k) (one i k)) (m k l)) = ad (mm n (mm n m x) m i l) (mm n one m i l) := by
      show _ = ad (fsum n _) (fsum n _)
      rw [← fsum_ad]
      exact fsum_congr fun k _ => ad_mu _ _ _
    have e2 : mm n (mm n m x) m i l = m i l := by
      rw [mm_assoc]
      show fsum n (fun k => mu (m i k) (mm n x m k l)) = _
      rw [fsum_congr (g := fun k => mu (m i k) (one k l)) fun k hk => by rw [h k l hk hl]]
      exact mm_one n m i l hl
    rw [e1, e2, one_mm n m i l hin, ad_self]) j hjn
  exact eq_of_ad key
/-- n independent rows of n: there is an inverse. -/
theorem inverse_of_indep {n : Nat} {m : Nat → Nat → F} (h : Indep n n m) : ∃ x : Nat → Nat → F, ∀ i j, i < n → j < n → mm n x m i j = one i j := by
  obtain ⟨x, hx⟩ := choose_coefs (r := n) (u := one) fun i _ => span_of_indep h (one i)
  exact ⟨x, fun i j hi hj => (hx i hi j hj).symm⟩
end Go.Proofs.YtmlcbphcphpihaaDoor.Lin
