/- A ring's mathematics: nodes by the least of their points; who is preferred is told by that order alone; one node more. -/
import Derived.Test.YtakfjkphmfblaaaGreatDoorHashM
namespace Go.Proofs.YtakfjkphmfblaaaGreatDoor.Ring
/-- Texts in the language's own order. -/
def bl (x y : ByteArray) : Prop := Op.bytesLess x.toList y.toList = true
theorem less_irrefl : ∀ l : List UInt8, Op.bytesLess l l = false
  | [] => rfl
  | a :: l => by simp [Op.bytesLess, less_irrefl l]
theorem less_trans : ∀ {l m n : List UInt8}, Op.bytesLess l m = true → Op.bytesLess m n = true → Op.bytesLess l n = true
  | _, [], _, h, _ => by simp [Op.bytesLess] at h
  | _, _ :: _, [], _, h => by simp [Op.bytesLess] at h
  | [], _ :: _, _ :: _, _, _ => rfl
  | a :: l, b :: m, c :: n, h1, h2 => by
    simp only [Op.bytesLess, Bool.or_eq_true, decide_eq_true_eq, Bool.and_eq_true, beq_iff_eq] at h1 h2 ⊢
    rcases h1 with h1 | ⟨e1, h1⟩
    · rcases h2 with h2 | ⟨e2, h2⟩
      · exact Or.inl (UInt8.lt_trans h1 h2)
      · exact Or.inl (e2 ▸ h1)
    · rcases h2 with h2 | ⟨e2, h2⟩
      · exact Or.inl (e1 ▸ h2)
      · exact Or.inr ⟨e1.trans e2, less_trans h1 h2⟩
theorem less_total : ∀ {l m : List UInt8}, l ≠ m → Op.bytesLess l m = true ∨ Op.bytesLess m l = true
  | [], [], h => absurd rfl h
  | [], _ :: _, _ => Or.inl rfl
  | _ :: _, [], _ => Or.inr rfl
  | a :: l, b :: m, h => by
    simp only [Op.bytesLess, Bool.or_eq_true, decide_eq_true_eq, Bool.and_eq_true, beq_iff_eq]
    by_cases e : a = b
    · subst e
      rcases less_total (l := l) (m := m) (fun e2 => h (by rw [e2])) with h2 | h2
      · exact Or.inl (Or.inr ⟨rfl, h2⟩)
      · exact Or.inr (Or.inr ⟨rfl, h2⟩)
    · rcases (show a < b ∨ b < a by
        rcases Nat.lt_or_ge a.toNat b.toNat with h3 | h3
        · exact Or.inl (UInt8.lt_iff_toNat_lt.2 h3)
        · exact Or.inr (UInt8.lt_iff_toNat_lt.2 (Nat.lt_of_le_of_ne h3 (fun e2 => e (UInt8.toNat_inj.1 e2.symm))))) with h3 | h3
      · exact Or.inl (Or.inl h3)
      · exact Or.inr (Or.inl h3)
theorem bl_irrefl (x : ByteArray) : ¬ bl x x := by
  unfold bl
  rw [less_irrefl]
  decide
theorem bl_trans {x y z : ByteArray} (h1 : bl x y) (h2 : bl y z) : bl x z := less_trans h1 h2
theorem txt_inj {a b : ByteArray} (h : a.toList = b.toList) : a = b := by
  rw [ByteArray.toList_eq, ByteArray.toList_eq] at h
  exact ByteArray.ext (Array.toList_inj.1 h)
theorem bl_total {x y : ByteArray} (h : x ≠ y) : bl x y ∨ bl y x := less_total (fun e => h (txt_inj e))
/-- Points: by number, of one number by name. -/
def plt (p q : Nat × ByteArray) : Prop := p.1 < q.1 ∨ p.1 = q.1 ∧ bl p.2 q.2
theorem plt_irrefl (p : Nat × ByteArray) : ¬ plt p p := fun h => by
  rcases h with h | ⟨_, h⟩
  · exact Nat.lt_irrefl _ h
  · exact bl_irrefl _ h
theorem plt_trans {p q r : Nat × ByteArray} (h1 : plt p q) (h2 : plt q r) : plt p r := by
  rcases h1 with h1 | ⟨e1, h1⟩
  · rcases h2 with h2 | ⟨e2, _⟩
    · exact Or.inl (Nat.lt_trans h1 h2)
    · exact Or.inl (by omega)
  · rcases h2 with h2 | ⟨e2, h2⟩
    · exact Or.inl (by omega)
    · exact Or.inr ⟨e1.trans e2, bl_trans h1 h2⟩
theorem plt_total {p q : Nat × ByteArray} (h : p ≠ q) : plt p q ∨ plt q p := by
  obtain ⟨a, x⟩ := p
  obtain ⟨b, y⟩ := q
  rcases Nat.lt_or_ge a b with h1 | h1
  · exact Or.inl (Or.inl h1)
  · rcases Nat.lt_or_ge b a with h2 | h2
    · exact Or.inr (Or.inl h2)
    · have e : a = b := by omega
      subst e
      rcases bl_total (x := x) (y := y) (fun e => h (by rw [e])) with h3 | h3
      · exact Or.inl (Or.inr ⟨rfl, h3⟩)
      · exact Or.inr (Or.inr ⟨rfl, h3⟩)
theorem plt_asymm {p q : Nat × ByteArray} (h1 : plt p q) (h2 : plt q p) : False := plt_irrefl _ (plt_trans h1 h2)
/-- p is not behind q, q ahead of r. -/
theorem ple_plt {p q r : Nat × ByteArray} (h1 : ¬ plt q p) (h2 : plt q r) : plt p r := by
  by_cases e : p = q
  · rw [e]; exact h2
  · rcases plt_total e with h3 | h3
    · exact plt_trans h3 h2
    · exact absurd h3 h1
theorem plt_ple {p q r : Nat × ByteArray} (h1 : plt p q) (h2 : ¬ plt r q) : plt p r := by
  by_cases e : q = r
  · rw [← e]; exact h1
  · rcases plt_total e with h3 | h3
    · exact plt_trans h1 h3
    · exact absurd h3 h2
/-- The least of f 0 to f n. -/
def minTo (f : Nat → Nat) : Nat → Nat
  | 0 => f 0
  | n + 1 => min (minTo f n) (f (n + 1))
theorem minTo_le (f : Nat → Nat) : ∀ n k, k ≤ n → minTo f n ≤ f k
  | 0, k, h => by
    obtain rfl : k = 0 := by omega
    exact Nat.le_refl _
  | n + 1, k, h => by
    by_cases e : k = n + 1
    · rw [e]; exact Nat.min_le_right _ _
    · exact Nat.le_trans (Nat.min_le_left _ _) (minTo_le f n k (by omega))
theorem minTo_mem (f : Nat → Nat) : ∀ n, ∃ k, k ≤ n ∧ f k = minTo f n
  | 0 => ⟨0, Nat.le_refl _, rfl⟩
  | n + 1 => by
    obtain ⟨k, hk, e⟩ := minTo_mem f n
    rcases Nat.le_total (minTo f n) (f (n + 1)) with h | h
    · exact ⟨k, by omega, by rw [e]; exact (Nat.min_eq_left h).symm⟩
    · exact ⟨n + 1, Nat.le_refl _, (Nat.min_eq_right h).symm⟩
/-- A point's text; its number; its number as it is met from h on. -/
def ptT (x : ByteArray) (k : Nat) : ByteArray := x ++ ⟨#[35]⟩ ++ strOf [48 + k]
def hashOf (s : ByteArray) : Nat := hashTo s s.size
theorem hashOf_lt (s : ByteArray) : hashOf s < 4294967296 := hashTo_lt s _
def ptN (x : ByteArray) (k : Nat) : Nat := hashOf (ptT x k)
def shf (h a : Nat) : Nat := if a < h then a + 4294967296 else a
def ptA (h : Nat) (x : ByteArray) (k : Nat) : Nat := shf h (ptN x k)
/-- The first of a node's points from h on. -/
def dist (h : Nat) (x : ByteArray) : Nat := minTo (ptA h x) 7
theorem dist_le (h : Nat) (x : ByteArray) (k : Nat) (hk : k < 8) : dist h x ≤ ptA h x k := minTo_le _ 7 k (by omega)
theorem dist_mem (h : Nat) (x : ByteArray) : ∃ k, k < 8 ∧ ptA h x k = dist h x := by
  obtain ⟨k, hk, e⟩ := minTo_mem (ptA h x) 7
  exact ⟨k, by omega, e⟩
/-- Node x is met ahead of node y. -/
def nlt (h : Nat) (x y : ByteArray) : Prop := plt (dist h x, x) (dist h y, y)
theorem nlt_irrefl (h : Nat) (x : ByteArray) : ¬ nlt h x x := plt_irrefl _
theorem nlt_trans {h : Nat} {x y z : ByteArray} (h1 : nlt h x y) (h2 : nlt h y z) : nlt h x z := plt_trans h1 h2
theorem nlt_total {h : Nat} {x y : ByteArray} (hne : x ≠ y) : nlt h x y ∨ nlt h y x := plt_total (fun e => hne (by have := congrArg Prod.snd e; exact this))
/-- out are nodes, in their order, and none that is left is ahead of one of them. -/
structure Pref (h : Nat) (nodes out : List ByteArray) : Prop where
  mem : ∀ x ∈ out, x ∈ nodes
  ord : out.Pairwise (nlt h)
  rest : ∀ x ∈ nodes, x ∉ out → ∀ y ∈ out, nlt h y x
theorem Pref.nil (h : Nat) (nodes : List ByteArray) : Pref h nodes [] := ⟨fun _ hx => (by cases hx), List.Pairwise.nil, fun _ _ _ _ hy => (by cases hy)⟩
theorem Pref.nodup {h : Nat} {nodes out : List ByteArray} (hp : Pref h nodes out) : out.Nodup := by
  refine hp.ord.imp ?_
  intro a b hab e
  subst e
  exact nlt_irrefl h a hab
theorem Pref.congr {h : Nat} {nodes nodes' out : List ByteArray} (hp : Pref h nodes out) (he : ∀ x, x ∈ nodes ↔ x ∈ nodes') : Pref h nodes' out := ⟨fun x hx => (he x).1 (hp.mem x hx), hp.ord, fun x hx => hp.rest x ((he x).2 hx)⟩
/-- One node more. -/
theorem Pref.push {h : Nat} {nodes out : List ByteArray} (hp : Pref h nodes out) {x : ByteArray} (hx : x ∈ nodes) (hn : x ∉ out) (hmin : ∀ z ∈ nodes, z ∉ out → z ≠ x → nlt h x z) : Pref h nodes (out ++ [x]) := by
  refine ⟨fun y hy => ?_, ?_, fun z hz hzn y hy => ?_⟩
  · rcases List.mem_append.1 hy with h1 | h1
    · exact hp.mem y h1
    · rw [List.mem_singleton.1 h1]; exact hx
  · refine List.pairwise_append.2 ⟨hp.ord, List.pairwise_singleton _ _, fun a ha b hb => ?_⟩
    rw [List.mem_singleton.1 hb]
    exact hp.rest x hx hn a ha
  · have hzo : z ∉ out := fun h1 => hzn (List.mem_append_left _ h1)
    rcases List.mem_append.1 hy with h1 | h1
    · exact hp.rest z hz hzo y h1
    · rw [List.mem_singleton.1 h1]
      exact hmin z hz hzo (fun e => hzn (by rw [e]; exact List.mem_append_right _ (List.mem_singleton.2 rfl)))
/-- The next one is the node of a point that none that is left stands ahead of. -/
theorem Pref.next {h : Nat} {nodes out : List ByteArray} (hp : Pref h nodes out) {x : ByteArray} {a : Nat} (hx : x ∈ nodes) (hn : x ∉ out) (ha : dist h x ≤ a) (hle : ∀ z ∈ nodes, z ∉ out → ¬ plt (dist h z, z) (a, x)) : Pref h nodes (out ++ [x]) := by
  refine hp.push hx hn fun z hz hzn hne => ?_
  have h1 : ¬ plt (a, x) (dist h x, x) := fun hq => by
    rcases hq with hq | ⟨_, hq⟩
    · have : a < dist h x := hq
      omega
    · exact bl_irrefl _ hq
  have h2 : (a, x) ≠ (dist h z, z) := fun e => hne (by have := congrArg Prod.snd e; exact this.symm)
  rcases plt_total h2 with h3 | h3
  · exact ple_plt h1 h3
  · exact absurd h3 (hle z hz hzn)
/-- It is told by how many they are. -/
theorem Pref.unique {h : Nat} : ∀ {a b nodes : List ByteArray}, Pref h nodes a → Pref h nodes b → a.length = b.length → a = b
  | [], [], _, _, _, _ => rfl
  | [], _ :: _, _, _, _, hl => by simp at hl
  | _ :: _, [], _, _, _, hl => by simp at hl
  | x :: a, y :: b, nodes, ha, hb, hl => by
    have first : ∀ {x : ByteArray} {a : List ByteArray}, Pref h nodes (x :: a) → ∀ z ∈ nodes, z ≠ x → nlt h x z := fun {x a} hp z hz hne => by
      by_cases hm : z ∈ a
      · exact (List.pairwise_cons.1 hp.ord).1 z hm
      · exact hp.rest z hz (fun h1 => by rcases List.mem_cons.1 h1 with h2 | h2; exact hne h2; exact hm h2) x List.mem_cons_self
    have e : x = y := Classical.byContradiction fun hne => by
      have h1 := first ha y (hb.mem y List.mem_cons_self) (fun e => hne e.symm)
      have h2 := first hb x (ha.mem x List.mem_cons_self) hne
      exact plt_asymm h1 h2
    subst e
    have tail : ∀ {a : List ByteArray}, Pref h nodes (x :: a) → Pref h (nodes.filter fun z => decide (z ≠ x)) a := fun {a} hp => by
      have hx : x ∉ a := (List.nodup_cons.1 hp.nodup).1
      refine ⟨fun z hz => List.mem_filter.2 ⟨hp.mem z (List.mem_cons_of_mem _ hz), ?_⟩, (List.pairwise_cons.1 hp.ord).2, fun z hz hzn w hw => ?_⟩
      · exact decide_eq_true (fun e => hx (e ▸ hz))
      · obtain ⟨h1, h2⟩ := List.mem_filter.1 hz
        exact hp.rest z h1 (fun h3 => by rcases List.mem_cons.1 h3 with h4 | h4; exact (of_decide_eq_true h2) h4; exact hzn h4) w (List.mem_cons_of_mem _ hw)
    rw [Pref.unique (tail ha) (tail hb) (by simpa using hl)]
/-- The first of them. -/
theorem Pref.take {h : Nat} {nodes out : List ByteArray} (hp : Pref h nodes out) (m : Nat) : Pref h nodes (out.take m) := by
  refine ⟨fun x hx => hp.mem x (List.mem_of_mem_take hx), hp.ord.sublist (List.take_sublist _ _), fun x hx hn y hy => ?_⟩
  by_cases hm : x ∈ out
  · have h1 : x ∈ out.drop m := by
      rw [← List.take_append_drop m out] at hm
      rcases List.mem_append.1 hm with h2 | h2
      · exact absurd h2 hn
      · exact h2
    have h2 := hp.ord
    rw [← List.take_append_drop m out] at h2
    exact (List.pairwise_append.1 h2).2.2 y hy x h1
  · exact hp.rest x hx hm y (List.mem_of_mem_take hy)
theorem filter_one {b : List ByteArray} (hb : b.Nodup) (x : ByteArray) : b.length ≤ (b.filter fun z => decide (z ≠ x)).length + 1 := by
  induction b with
  | nil => simp
  | cons y b ih =>
    obtain ⟨h1, h2⟩ := List.nodup_cons.1 hb
    by_cases e : y = x
    · subst e
      have : (b.filter fun z => decide (z ≠ y)) = b := List.filter_eq_self.2 fun z hz => decide_eq_true (fun e => h1 (e ▸ hz))
      rw [List.filter_cons_of_neg (by simp), this]
      exact Nat.le_refl _
    · have := ih h2
      simp only [List.length_cons]
      rw [List.filter_cons_of_pos (by simpa using e)]
      simp only [List.length_cons]
      omega
/-- KARGER: where one node comes more, at most one of the preferred goes, and the others stay in their order. -/
theorem karger {h : Nat} {nodes a b : List ByteArray} {more : ByteArray} (hm : more ∉ nodes) (ha : Pref h nodes a) (hb : Pref h (nodes ++ [more]) b) (hl : a.length = b.length) :
    (b.filter fun z => decide (z ≠ more)) = a.take (b.filter fun z => decide (z ≠ more)).length ∧ b.length ≤ (b.filter fun z => decide (z ≠ more)).length + 1 := by
  have hr : Pref h nodes (b.filter fun z => decide (z ≠ more)) := by
    refine ⟨fun x hx => ?_, hb.ord.sublist List.filter_sublist, fun x hx hn y hy => ?_⟩
    · obtain ⟨h1, h2⟩ := List.mem_filter.1 hx
      rcases List.mem_append.1 (hb.mem x h1) with h3 | h3
      · exact h3
      · exact absurd (List.mem_singleton.1 h3) (of_decide_eq_true h2)
    · refine hb.rest x (List.mem_append_left _ hx) (fun h1 => hn (List.mem_filter.2 ⟨h1, decide_eq_true (fun e => hm (e ▸ hx))⟩)) y (List.mem_filter.1 hy).1
  refine ⟨Pref.unique hr (ha.take _) ?_, filter_one hb.nodup more⟩
  have : (b.filter fun z => decide (z ≠ more)).length ≤ b.length := List.length_filter_le _ _
  rw [List.length_take, hl]
  omega
theorem nodup_le : ∀ {l m : List ByteArray}, l.Nodup → l ⊆ m → l.length ≤ m.length
  | [], _, _, _ => Nat.zero_le _
  | x :: l, m, hn, hs => by
    obtain ⟨h1, h2⟩ := List.nodup_cons.1 hn
    have hx : x ∈ m := hs List.mem_cons_self
    have h3 : l ⊆ m.filter fun z => decide (z ≠ x) := fun y hy => List.mem_filter.2 ⟨hs (List.mem_cons_of_mem _ hy), decide_eq_true (fun e => h1 (by rw [← e]; exact hy))⟩
    have h4 := nodup_le h2 h3
    have h5 : (m.filter fun z => decide (z ≠ x)).length < m.length := List.length_filter_lt_length_iff_exists.2 ⟨x, hx, by simp⟩
    simp only [List.length_cons]
    omega
/-- Where fewer than all are preferred, one is left. -/
theorem left_one {nodes out : List ByteArray} (hn : nodes.Nodup) (hl : out.length < nodes.length) : ∃ x ∈ nodes, x ∉ out := Classical.byContradiction fun hno => by
  have hs : nodes ⊆ out := fun x hx => Classical.byContradiction fun h => hno ⟨x, hx, h⟩
  have := nodup_le hn hs
  omega
end Go.Proofs.YtakfjkphmfblaaaGreatDoor.Ring
