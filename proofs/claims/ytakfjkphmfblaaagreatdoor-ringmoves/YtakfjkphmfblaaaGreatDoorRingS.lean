/- Points in their order, gone through once around from a place on: the nodes as they come first are those that are preferred. -/
import Derived.Test.YtakfjkphmfblaaaGreatDoorRingM
namespace Go.Proofs.YtakfjkphmfblaaaGreatDoor.Ring
/-- The points as they are met from h on: in order, each of a node, of each node the first. -/
structure RingR (h : Nat) (nodes : List ByteArray) (R : Nat → Nat × ByteArray) (M : Nat) : Prop where
  sorted : ∀ i j, i < j → j < M → ¬ plt (R j) (R i)
  mem : ∀ i, i < M → (R i).2 ∈ nodes ∧ dist h (R i).2 ≤ (R i).1
  all : ∀ x ∈ nodes, ∃ i, i < M ∧ R i = (dist h x, x)
/-- What stands when the first j points have been met: at most n nodes. -/
structure ScanInv (h : Nat) (nodes : List ByteArray) (R : Nat → Nat × ByteArray) (n j : Nat) (out : List ByteArray) : Prop where
  pref : Pref h nodes out
  le : out.length ≤ n
  seen : out.length < n → ∀ i, i < j → (R i).2 ∈ out
theorem ScanInv.start (h : Nat) (nodes : List ByteArray) (R : Nat → Nat × ByteArray) (n : Nat) : ScanInv h nodes R n 0 [] := ⟨Pref.nil _ _, Nat.zero_le _, fun _ _ hi => absurd hi (Nat.not_lt_zero _)⟩
theorem ScanInv.full {h : Nat} {nodes : List ByteArray} {R : Nat → Nat × ByteArray} {n j : Nat} {out : List ByteArray} (hi : ScanInv h nodes R n j out) (hf : ¬ out.length < n) : ScanInv h nodes R n (j + 1) out := ⟨hi.pref, hi.le, fun hl => absurd hl hf⟩
theorem ScanInv.skip {h : Nat} {nodes : List ByteArray} {R : Nat → Nat × ByteArray} {n j : Nat} {out : List ByteArray} (hi : ScanInv h nodes R n j out) (hf : (R j).2 ∈ out) : ScanInv h nodes R n (j + 1) out := ⟨hi.pref, hi.le, fun hl i hij => by
  rcases Nat.lt_or_ge i j with h1 | h1
  · exact hi.seen hl i h1
  · obtain rfl : i = j := by omega
    exact hf⟩
theorem ScanInv.push {h : Nat} {nodes : List ByteArray} {R : Nat → Nat × ByteArray} {n j M : Nat} {out : List ByteArray} (hr : RingR h nodes R M) (hi : ScanInv h nodes R n j out) (hj : j < M) (hl : out.length < n) (hf : (R j).2 ∉ out) : ScanInv h nodes R n (j + 1) (out ++ [(R j).2]) := by
  have hm := hr.mem j hj
  refine ⟨hi.pref.next (a := (R j).1) hm.1 hf hm.2 (fun z hz hzn hp => ?_), by rw [List.length_append]; show out.length + 1 ≤ n; omega, fun _ i hij => ?_⟩
  · obtain ⟨i, him, e⟩ := hr.all z hz
    have e' : plt (R i) (R j) := by rw [e]; exact hp
    rcases Nat.lt_or_ge i j with h1 | h1
    · have := hi.seen hl i h1
      rw [e] at this
      exact hzn this
    · by_cases h2 : i = j
      · subst h2
        exact plt_irrefl _ e'
      · exact hr.sorted j i (by omega) him e'
  · rcases Nat.lt_or_ge i j with h1 | h1
    · exact List.mem_append_left _ (hi.seen hl i h1)
    · obtain rfl : i = j := by omega
      exact List.mem_append_right _ (List.mem_singleton.2 rfl)
/-- Once around: all that were asked for. -/
theorem ScanInv.done {h : Nat} {nodes : List ByteArray} {R : Nat → Nat × ByteArray} {n M : Nat} {out : List ByteArray} (hr : RingR h nodes R M) (hn : n ≤ nodes.length) (hnd : nodes.Nodup) (hi : ScanInv h nodes R n M out) : out.length = n := by
  rcases Nat.lt_or_ge out.length n with hl | hl
  · exfalso
    obtain ⟨x, hx, hxn⟩ := left_one hnd (show out.length < nodes.length by omega)
    obtain ⟨i, him, e⟩ := hr.all x hx
    have := hi.seen hl i him
    rw [e] at this
    exact hxn this
  · have := hi.le
    omega
/-- Points by number, from the first that is not below h on, around. -/
def turned (h f M : Nat) (Q : Nat → Nat × ByteArray) (j : Nat) : Nat × ByteArray := (shf h (Q ((f + j) % M)).1, (Q ((f + j) % M)).2)
theorem plt_shift {p q : Nat × ByteArray} {c : Nat} : plt (p.1 + c, p.2) (q.1 + c, q.2) ↔ plt p q := by
  unfold plt
  constructor
  · rintro (h | ⟨h1, h2⟩)
    · have h' : p.1 + c < q.1 + c := h
      exact Or.inl (by omega)
    · have h' : p.1 + c = q.1 + c := h1
      exact Or.inr ⟨by omega, h2⟩
  · rintro (h | ⟨h1, h2⟩)
    · exact Or.inl (by show p.1 + c < q.1 + c; omega)
    · exact Or.inr ⟨by show p.1 + c = q.1 + c; omega, h2⟩
theorem ringR_of {h f M : Nat} {nodes : List ByteArray} {Q : Nat → Nat × ByteArray} (hM : 0 < M) (hf : f ≤ M) (hlt : ∀ i, i < M → (Q i).1 < 4294967296) (hs : ∀ i j, i < j → j < M → ¬ plt (Q j) (Q i))
    (hlo : ∀ i, i < f → (Q i).1 < h) (hhi : ∀ i, f ≤ i → i < M → h ≤ (Q i).1)
    (hmem : ∀ i, i < M → (Q i).2 ∈ nodes ∧ ∃ k, k < 8 ∧ (Q i).1 = ptN (Q i).2 k) (hall : ∀ x ∈ nodes, ∀ k, k < 8 → ∃ i, i < M ∧ Q i = (ptN x k, x)) : RingR h nodes (turned h f M Q) M := by
  have lo : ∀ i, i < f → shf h (Q i).1 = (Q i).1 + 4294967296 := fun i hi => if_pos (hlo i hi)
  have hi' : ∀ i, f ≤ i → i < M → shf h (Q i).1 = (Q i).1 := fun i h1 h2 => if_neg (by have := hhi i h1 h2; omega)
  refine ⟨fun i j hij hj => ?_, fun i hi => ?_, fun x hx => ?_⟩
  · unfold turned
    rcases Nat.lt_or_ge (f + j) M with h1 | h1
    · rw [Nat.mod_eq_of_lt h1, Nat.mod_eq_of_lt (show f + i < M by omega), hi' _ (by omega) h1, hi' _ (by omega) (by omega)]
      exact hs (f + i) (f + j) (by omega) h1
    · have ej : (f + j) % M = f + j - M := by
        rw [Nat.mod_eq_sub_mod h1]
        exact Nat.mod_eq_of_lt (by omega)
      rw [ej, lo (f + j - M) (by omega)]
      rcases Nat.lt_or_ge (f + i) M with h2 | h2
      · rw [Nat.mod_eq_of_lt h2, hi' _ (by omega) h2]
        have := hlt (f + i) h2
        rintro (h3 | ⟨h3, _⟩)
        · have h4 : (Q (f + j - M)).1 + 4294967296 < (Q (f + i)).1 := h3
          omega
        · have h4 : (Q (f + j - M)).1 + 4294967296 = (Q (f + i)).1 := h3
          omega
      · have ei : (f + i) % M = f + i - M := by
          rw [Nat.mod_eq_sub_mod h2]
          exact Nat.mod_eq_of_lt (by omega)
        rw [ei, lo (f + i - M) (by omega), plt_shift]
        exact hs (f + i - M) (f + j - M) (by omega) (by omega)
  · have hlt2 : (f + i) % M < M := Nat.mod_lt _ hM
    obtain ⟨h1, k, hk, e⟩ := hmem _ hlt2
    refine ⟨h1, ?_⟩
    show dist h (Q ((f + i) % M)).2 ≤ shf h (Q ((f + i) % M)).1
    rw [e]
    exact dist_le h _ k hk
  · obtain ⟨k, hk, e⟩ := dist_mem h x
    obtain ⟨i, hiM, eq⟩ := hall x hx k hk
    -- the place j with (f + j) % M = i
    obtain ⟨j, hj, ej⟩ : ∃ j, j < M ∧ (f + j) % M = i := by
      rcases Nat.lt_or_ge i f with h1 | h1
      · refine ⟨i + M - f, by omega, ?_⟩
        rw [show f + (i + M - f) = i + M by omega, Nat.add_mod_right]
        exact Nat.mod_eq_of_lt hiM
      · refine ⟨i - f, by omega, ?_⟩
        rw [show f + (i - f) = i by omega]
        exact Nat.mod_eq_of_lt hiM
    refine ⟨j, hj, ?_⟩
    unfold turned
    rw [ej, eq, ← e]
    rfl
end Go.Proofs.YtakfjkphmfblaaaGreatDoor.Ring
