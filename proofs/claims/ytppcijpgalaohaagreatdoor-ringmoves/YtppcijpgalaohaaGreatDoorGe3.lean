/- Texts laid together. -/
import Derived.Test.YtppcijpgalaohaaGreatDoorGe2
namespace Go.Proofs.YtppcijpgalaohaaGreatDoor
open Go.RowKit
namespace Ring
/-- Texts in the language's own order. -/
def bl (x y : ByteArray) : Prop := Op.bytesLess x.toList y.toList = true
theorem less_irrefl : ∀ l : List UInt8, Op.bytesLess l l = false
  | [] => rfl
  | a :: l => by simp [Op.bytesLess, less_irrefl l]
theorem ring_trans : ∀ {l m n : List UInt8}, Op.bytesLess l m = true → Op.bytesLess m n = true → Op.bytesLess l n = true
  | _, [], _, h, _ => by simp [Op.bytesLess] at h
  | _, _ :: _, [], _, h => by simp [Op.bytesLess] at h
  | [], _ :: _, _ :: _, _, _ => rfl
  | a :: l, b :: m, c :: n, h1, h2 => by
    simp only [Op.bytesLess, Bool.or_eq_true, decide_eq_true_eq, Bool.and_eq_true, beq_iff_eq] at h1 h2 ⊢
    rcases h1 with h1 | ⟨e1, h1⟩
    · rcases h2 with h2 | ⟨e2, h2⟩
      · exact Or.inl (UInt8.lt_trans h1 h2)
      · exact Or.inl (e2 ▸ h1)
    · rcases h2 with h2 | ⟨e2, h2⟩
      · exact Or.inl (e1 ▸ h2)
      · exact Or.inr ⟨e1.trans e2, ring_trans h1 h2⟩
theorem less_total : ∀ {l m : List UInt8}, l ≠ m → Op.bytesLess l m = true ∨ Op.bytesLess m l = true
  | [], [], h => absurd rfl h
  | [], _ :: _, _ => Or.inl rfl
  | _ :: _, [], _ => Or.inr rfl
  | a :: l, b :: m, h => by
    simp only [Op.bytesLess, Bool.or_eq_true, decide_eq_true_eq, Bool.and_eq_true, beq_iff_eq]
    by_cases e : a = b
    · subst e
      rcases less_total (l := l) (m := m) (fun e2 => h (by rw [e2])) with h2 | h2
      · exact Or.inl (Or.inr ⟨rfl, h2⟩)
      · exact Or.inr (Or.inr ⟨rfl, h2⟩)
    · rcases (show a < b ∨ b < a by
        rcases Nat.lt_or_ge a.toNat b.toNat with h3 | h3
        · exact Or.inl (UInt8.lt_iff_toNat_lt.2 h3)
        · exact Or.inr (UInt8.lt_iff_toNat_lt.2 (Nat.lt_of_le_of_ne h3 (fun e2 => e (UInt8.toNat_inj.1 e2.symm))))) with h3 | h3
      · exact Or.inl (Or.inl h3)
      · exact Or.inr (Or.inl h3)
theorem bl_irrefl (x : ByteArray) : ¬ bl x x := by
  unfold bl
  rw [less_irrefl]
  decide
theorem bl_trans {x y z : ByteArray} (h1 : bl x y) (h2 : bl y z) : bl x z := ring_trans h1 h2
theorem txt_inj {a b : ByteArray} (h : a.toList = b.toList) : a = b := by
  rw [ByteArray.toList_eq, ByteArray.toList_eq] at h
  exact ByteArray.ext (Array.toList_inj.1 h)
theorem bl_total {x y : ByteArray} (h : x ≠ y) : bl x y ∨ bl y x := less_total (fun e => h (txt_inj e))
/-- Points: by number, of one number by name. -/
def plt (p q : Nat × ByteArray) : Prop := p.1 < q.1 ∨ p.1 = q.1 ∧ bl p.2 q.2
theorem plt_irrefl (p : Nat × ByteArray) : ¬ plt p p := fun h => by
  rcases h with h | ⟨_, h⟩
  · exact Nat.lt_irrefl _ h
  · exact bl_irrefl _ h
theorem plt_trans {p q r : Nat × ByteArray} (h1 : plt p q) (h2 : plt q r) : plt p r := by
  rcases h1 with h1 | ⟨e1, h1⟩
  · rcases h2 with h2 | ⟨e2, _⟩
    · exact Or.inl (Nat.lt_trans h1 h2)
    · exact Or.inl (by omega)
  · rcases h2 with h2 | ⟨e2, h2⟩
    · exact Or.inl (by omega)
    · exact Or.inr ⟨e1.trans e2, bl_trans h1 h2⟩
theorem plt_total {p q : Nat × ByteArray} (h : p ≠ q) : plt p q ∨ plt q p := by
  obtain ⟨a, x⟩ := p
  obtain ⟨b, y⟩ := q
  rcases Nat.lt_or_ge a b with h1 | h1
  · exact Or.inl (Or.inl h1)
  · rcases Nat.lt_or_ge b a with h2 | h2
    · exact Or.inr (Or.inl h2)
    · have e : a = b := by omega
      subst e
      rcases bl_total (x := x) (y := y) (fun e => h (by rw [e])) with h3 | h3
      · exact Or.inl (Or.inr ⟨rfl, h3⟩)
      · exact Or.inr (Or.inr ⟨rfl, h3⟩)
theorem plt_asymm {p q : Nat × ByteArray} (h1 : plt p q) (h2 : plt q p) : False := plt_irrefl _ (plt_trans h1 h2)
/-- p is not behind q, q ahead of r. -/
theorem ple_plt {p q r : Nat × ByteArray} (h1 : ¬ plt q p) (h2 : plt q r) : plt p r := by
  by_cases e : p = q
  · rw [e]; exact h2
  · rcases plt_total e with h3 | h3
    · exact plt_trans h3 h2
    · exact absurd h3 h1
theorem plt_ple {p q r : Nat × ByteArray} (h1 : plt p q) (h2 : ¬ plt r q) : plt p r := by
  by_cases e : q = r
  · rw [← e]; exact h1
  · rcases plt_total e with h3 | h3
    · exact plt_trans h1 h3
    · exact absurd h3 h2
/-- The least of f 0 to f n. -/
def minTo (f : Nat → Nat) : Nat → Nat
  | 0 => f 0
  | n + 1 => min (minTo f n) (f (n + 1))
theorem minTo_le (f : Nat → Nat) : ∀ n k, k ≤ n → minTo f n ≤ f k
  | 0, k, h => by
    obtain rfl : k = 0 := by omega
    exact Nat.le_refl _
  | n + 1, k, h => by
    by_cases e : k = n + 1
    · rw [e]; exact Nat.min_le_right _ _
    · exact Nat.le_trans (Nat.min_le_left _ _) (minTo_le f n k (by omega))
theorem minTo_mem (f : Nat → Nat) : ∀ n, ∃ k, k ≤ n ∧ f k = minTo f n
  | 0 => ⟨0, Nat.le_refl _, rfl⟩
  | n + 1 => by
    obtain ⟨k, hk, e⟩ := minTo_mem f n
    rcases Nat.le_total (minTo f n) (f (n + 1)) with h | h
    · exact ⟨k, by omega, by rw [e]; exact (Nat.min_eq_left h).symm⟩
    · exact ⟨n + 1, Nat.le_refl _, (Nat.min_eq_right h).symm⟩
/-- A point's text; its number; its number as it is met from h on. -/
def ptT (x : ByteArray) (k : Nat) : ByteArray := x ++ ⟨#[35]⟩ ++ strOf [48 + k]
def hashOf (s : ByteArray) : Nat := hashTo s s.size
theorem hashOf_lt (s : ByteArray) : hashOf s < 4294967296 := hashTo_lt s _
def ptN (x : ByteArray) (k : Nat) : Nat := hashOf (ptT x k)
def shf (h a : Nat) : Nat := if a < h then a + 4294967296 else a
def ptA (h : Nat) (x : ByteArray) (k : Nat) : Nat := shf h (ptN x k)
/-- The first of a node's points from h on. -/
def dist (h : Nat) (x : ByteArray) : Nat := minTo (ptA h x) 7
theorem dist_le (h : Nat) (x : ByteArray) (k : Nat) (hk : k < 8) : dist h x ≤ ptA h x k := minTo_le _ 7 k (by omega)
theorem dist_mem (h : Nat) (x : ByteArray) : ∃ k, k < 8 ∧ ptA h x k = dist h x := by
  obtain ⟨k, hk, e⟩ := minTo_mem (ptA h x) 7
  exact ⟨k, by omega, e⟩
/-- Node x is met ahead of node y. -/
def nlt (h : Nat) (x y : ByteArray) : Prop := plt (dist h x, x) (dist h y, y)
theorem nlt_irrefl (h : Nat) (x : ByteArray) : ¬ nlt h x x := plt_irrefl _
theorem nlt_trans {h : Nat} {x y z : ByteArray} (h1 : nlt h x y) (h2 : nlt h y z) : nlt h x z := plt_trans h1 h2
theorem nlt_total {h : Nat} {x y : ByteArray} (hne : x ≠ y) : nlt h x y ∨ nlt h y x := plt_total (fun e => hne (by have := congrArg Prod.snd e; exact this))
/-- out are nodes, in their order, and none that is left is ahead of one of them. -/
structure Pref (h : Nat) (nodes out : List ByteArray) : Prop where
  mem : ∀ x ∈ out, x ∈ nodes
  ord : out.Pairwise (nlt h)
  rest : ∀ x ∈ nodes, x ∉ out → ∀ y ∈ out, nlt h y x
theorem Pref.nil (h : Nat) (nodes : List ByteArray) : Pref h nodes [] := ⟨fun _ hx => (by cases hx), List.Pairwise.nil, fun _ _ _ _ hy => (by cases hy)⟩
theorem Pref.nodup {h : Nat} {nodes out : List ByteArray} (hp : Pref h nodes out) : out.Nodup := by
  refine hp.ord.imp ?_
  intro a b hab e
  subst e
  exact nlt_irrefl h a hab
theorem Pref.congr {h : Nat} {nodes nodes' out : List ByteArray} (hp : Pref h nodes out) (he : ∀ x, x ∈ nodes ↔ x ∈ nodes') : Pref h nodes' out := ⟨fun x hx => (he x).1 (hp.mem x hx), hp.ord, fun x hx => hp.rest x ((he x).2 hx)⟩
/-- One node more. -/
theorem Pref.push {h : Nat} {nodes out : List ByteArray} (hp : Pref h nodes out) {x : ByteArray} (hx : x ∈ nodes) (hn : x ∉ out) (hmin : ∀ z ∈ nodes, z ∉ out → z ≠ x → nlt h x z) : Pref h nodes (out ++ [x]) := by
  refine ⟨fun y hy => ?_, ?_, fun z hz hzn y hy => ?_⟩
  · rcases List.mem_append.1 hy with h1 | h1
    · exact hp.mem y h1
    · rw [List.mem_singleton.1 h1]; exact hx
  · refine List.pairwise_append.2 ⟨hp.ord, List.pairwise_singleton _ _, fun a ha b hb => ?_⟩
    rw [List.mem_singleton.1 hb]
    exact hp.rest x hx hn a ha
  · have hzo : z ∉ out := fun h1 => hzn (List.mem_append_left _ h1)
    rcases List.mem_append.1 hy with h1 | h1
    · exact hp.rest z hz hzo y h1
    · rw [List.mem_singleton.1 h1]
      exact hmin z hz hzo (fun e => hzn (by rw [e]; exact List.mem_append_right _ (List.mem_singleton.2 rfl)))
/-- The next one is the node of a point that none that is left stands ahead of. -/
theorem Pref.next {h : Nat} {nodes out : List ByteArray} (hp : Pref h nodes out) {x : ByteArray} {a : Nat} (hx : x ∈ nodes) (hn : x ∉ out) (ha : dist h x ≤ a) (hle : ∀ z ∈ nodes, z ∉ out → ¬ plt (dist h z, z) (a, x)) : Pref h nodes (out ++ [x]) := by
  refine hp.push hx hn fun z hz hzn hne => ?_
  have h1 : ¬ plt (a, x) (dist h x, x) := fun hq => by
    rcases hq with hq | ⟨_, hq⟩
    · have : a < dist h x := hq
      omega
    · exact bl_irrefl _ hq
  have h2 : (a, x) ≠ (dist h z, z) := fun e => hne (by have := congrArg Prod.snd e; exact this.symm)
  rcases plt_total h2 with h3 | h3
  · exact ple_plt h1 h3
  · exact absurd h3 (hle z hz hzn)
/-- It is told by how many they are. -/
theorem Pref.unique {h : Nat} : ∀ {a b nodes : List ByteArray}, Pref h nodes a → Pref h nodes b → a.length = b.length → a = b
  | [], [], _, _, _, _ => rfl
  | [], _ :: _, _, _, _, hl => by simp at hl
  | _ :: _, [], _, _, _, hl => by simp at hl
  | x :: a, y :: b, nodes, ha, hb, hl => by
    have first : ∀ {x : ByteArray} {a : List ByteArray}, Pref h nodes (x :: a) → ∀ z ∈ nodes, z ≠ x → nlt h x z := fun {x a} hp z hz hne => by
      by_cases hm : z ∈ a
      · exact (List.pairwise_cons.1 hp.ord).1 z hm
      · exact hp.rest z hz (fun h1 => by rcases List.mem_cons.1 h1 with h2 | h2; exact hne h2; exact hm h2) x List.mem_cons_self
    have e : x = y := Classical.byContradiction fun hne => by
      have h1 := first ha y (hb.mem y List.mem_cons_self) (fun e => hne e.symm)
      have h2 := first hb x (ha.mem x List.mem_cons_self) hne
      exact plt_asymm h1 h2
    subst e
    have tail : ∀ {a : List ByteArray}, Pref h nodes (x :: a) → Pref h (nodes.filter fun z => decide (z ≠ x)) a := fun {a} hp => by
      have hx : x ∉ a := (List.nodup_cons.1 hp.nodup).1
      refine ⟨fun z hz => List.mem_filter.2 ⟨hp.mem z (List.mem_cons_of_mem _ hz), ?_⟩, (List.pairwise_cons.1 hp.ord).2, fun z hz hzn w hw => ?_⟩
      · exact decide_eq_true (fun e => hx (e ▸ hz))
      · obtain ⟨h1, h2⟩ := List.mem_filter.1 hz
        exact hp.rest z h1 (fun h3 => by rcases List.mem_cons.1 h3 with h4 | h4; exact (of_decide_eq_true h2) h4; exact hzn h4) w (List.mem_cons_of_mem _ hw)
    rw [Pref.unique (tail ha) (tail hb) (by simpa using hl)]
/-- The first of them. -/
theorem Pref.take {h : Nat} {nodes out : List ByteArray} (hp : Pref h nodes out) (m : Nat) : Pref h nodes (out.take m) := by
  refine ⟨fun x hx => hp.mem x (List.mem_of_mem_take hx), hp.ord.sublist (List.take_sublist _ _), fun x hx hn y hy => ?_⟩
  by_cases hm : x ∈ out
  · have h1 : x ∈ out.drop m := by
      rw [← List.take_append_drop m out] at hm
      rcases List.mem_append.1 hm with h2 | h2
      · exact absurd h2 hn
      · exact h2
    have h2 := hp.ord
    rw [← List.take_append_drop m out] at h2
    exact (List.pairwise_append.1 h2).2.2 y hy x h1
  · exact hp.rest x hx hm y (List.mem_of_mem_take hy)
theorem filter_one {b : List ByteArray} (hb : b.Nodup) (x : ByteArray) : b.length ≤ (b.filter fun z => decide (z ≠ x)).length + 1 := by
  induction b with
  | nil => simp
  | cons y b ih =>
    obtain ⟨h1, h2⟩ := List.nodup_cons.1 hb
    by_cases e : y = x
    · subst e
      have : (b.filter fun z => decide (z ≠ y)) = b := List.filter_eq_self.2 fun z hz => decide_eq_true (fun e => h1 (e ▸ hz))
      rw [List.filter_cons_of_neg (by simp), this]
      exact Nat.le_refl _
    · have := ih h2
      simp only [List.length_cons]
      rw [List.filter_cons_of_pos (by simpa using e)]
      simp only [List.length_cons]
      omega
/-- KARGER: where one node comes more, at most one of the preferred goes, and the others stay in their order. -/
theorem karger {h : Nat} {nodes a b : List ByteArray} {more : ByteArray} (hm : more ∉ nodes) (ha : Pref h nodes a) (hb : Pref h (nodes ++ [more]) b) (hl : a.length = b.length) :
    (b.filter fun z => decide (z ≠ more)) = a.take (b.filter fun z => decide (z ≠ more)).length ∧ b.length ≤ (b.filter fun z => decide (z ≠ more)).length + 1 := by
  have hr : Pref h nodes (b.filter fun z => decide (z ≠ more)) := by
    refine ⟨fun x hx => ?_, hb.ord.sublist List.filter_sublist, fun x hx hn y hy => ?_⟩
    · obtain ⟨h1, h2⟩ := List.mem_filter.1 hx
      rcases List.mem_append.1 (hb.mem x h1) with h3 | h3
      · exact h3
      · exact absurd (List.mem_singleton.1 h3) (of_decide_eq_true h2)
    · refine hb.rest x (List.mem_append_left _ hx) (fun h1 => hn (List.mem_filter.2 ⟨h1, decide_eq_true (fun e => hm (e ▸ hx))⟩)) y (List.mem_filter.1 hy).1
  refine ⟨Pref.unique hr (ha.take _) ?_, filter_one hb.nodup more⟩
  have : (b.filter fun z => decide (z ≠ more)).length ≤ b.length := List.length_filter_le _ _
  rw [List.length_take, hl]
  omega
theorem nodup_le : ∀ {l m : List ByteArray}, l.Nodup → l ⊆ m → l.length ≤ m.length
  | [], _, _, _ => Nat.zero_le _
  | x :: l, m, hn, hs => by
    obtain ⟨h1, h2⟩ := List.nodup_cons.1 hn
    have hx : x ∈ m := hs List.mem_cons_self
    have h3 : l ⊆ m.filter fun z => decide (z ≠ x) := fun y hy => List.mem_filter.2 ⟨hs (List.mem_cons_of_mem _ hy), decide_eq_true (fun e => h1 (by rw [← e]; exact hy))⟩
    have h4 := nodup_le h2 h3
    have h5 : (m.filter fun z => decide (z ≠ x)).length < m.length := List.length_filter_lt_length_iff_exists.2 ⟨x, hx, by simp⟩
    simp only [List.length_cons]
    omega
/-- Where fewer than all are preferred, one is left. -/
theorem left_one {nodes out : List ByteArray} (hn : nodes.Nodup) (hl : out.length < nodes.length) : ∃ x ∈ nodes, x ∉ out := Classical.byContradiction fun hno => by
  have hs : nodes ⊆ out := fun x hx => Classical.byContradiction fun h => hno ⟨x, hx, h⟩
  have := nodup_le hn hs
  omega
end Ring
section
open Ring
/-- What Prefer answers. -/
def PreferAns (w : World) (ad : Nat → Addr) (B : Nat) (nodes : List ByteArray) (h : Nat) (n : Int) (e : Ending) : Prop :=
  (0 < (preferF nodes n).1 ∧ ∃ q c ev, e = .returned (.tuple #[.slice q 0 c, ev]) ∧ ErrIs w ad ev (preferF nodes n).1 (preferF nodes n).2) ∨
  (¬ 0 < (preferF nodes n).1 ∧ ∃ v out, e = .returned (.tuple #[v, .nilIface]) ∧ OwnT w B v out ∧ (out.length : Int) = n ∧ Pref h nodes out)
/-- Package ring answers as it is asked to. -/
structure RingOk (ad : Nat → Addr) : Prop where
  check : ∀ (p : Option Addr) (l : List ByteArray) (c : Nat) (w : World), l.length ≤ 1000 → l.length ≤ c → (∀ x ∈ l, x.size ≤ 1000) → Strs w p l → Errs w ad →
    Calls Tryz.prog 8 #[.slice p l.length c] w fun e w' => (∃ ev, e = .returned ev ∧ ErrIs w' ad ev (nodesF l).1 (nodesF l).2) ∧ Below w.heap.size w w'
  prefer : ∀ (p : Option Addr) (l : List ByteArray) (c : Nat) (key : ByteArray) (n : Int) (w : World), l.length ≤ 1000 → l.length ≤ c → (∀ x ∈ l, x.size ≤ 1000) → key.size ≤ 1000 → Strs w p l → Errs w ad →
    Calls Tryz.prog 11 #[.slice p l.length c, .string key, .int .i64 n] w fun e w' => PreferAns w' ad w.heap.size l (hashOf key) n e ∧ Below w.heap.size w w'
theorem one_fine : (preferF [⟨#[97]⟩] 1).1 = 0 := by decide +kernel
set_option maxRecDepth 10000 in
theorem round_any (ad : Nat → Addr) (w : World) (hR : RingOk ad) (hS : Errs w ad) :
    Calls Tryz.prog 5 #[] w fun e w' => e = .returned (.bool true) ∧ Below w.heap.size w w' := by
  obtain ⟨w0, hw0⟩ : ∃ w0, w0 = w.alloc (.cells #[.string ⟨#[97]⟩] 9) := ⟨_, rfl⟩
  have hb0 : Below w.heap.size w w0 := by rw [hw0]; exact (Below.refl _ _).alloc (Nat.le_refl _) _
  have hs0 : Strs w0 (some ⟨w.heap.size, 0, none⟩) [⟨#[97]⟩] := Or.inr ⟨w.heap.size, 0, rfl, by rw [hw0]; simp, fun i hi => by
    obtain rfl : i = 0 := by simpa using hi
    rw [hw0, World.cell?_alloc_at _ _ _ _ rfl]
    rfl⟩
  have HP := hR.prefer (some ⟨w.heap.size, 0, none⟩) [⟨#[97]⟩] 1 ⟨#[107]⟩ 1 w0 (by decide) (by decide) (fun x hx => by rw [List.mem_singleton.1 hx]; decide) (by decide) hs0 (hS.below hb0)
  have HW0 : Hid (w0 = w.alloc (.cells #[.string ⟨#[97]⟩] 9)) := hw0
  have HB0 : Hid (Below w.heap.size w w0) := hb0
  clear hw0 hb0 hs0 hS hR
  go_enter Tryz.func5, Tryz.ntmps5
  go_wp2_with fail
  rw [← HW0.out]
  refine HP.mono ?_
  rintro e w1 ⟨hA, hb1⟩
  rcases hA with ⟨h1, _⟩ | ⟨_, v, out, rfl, hO, hlen, hPf⟩
  · rw [one_fine] at h1; exact absurd h1 (by decide)
  have hout : out = [⟨#[97]⟩] := by
    match out, hlen with
    | [x], _ => rw [List.mem_singleton.1 (hPf.mem x (List.mem_singleton.2 rfl))]
  subst hout
  obtain ⟨q, c, rfl, hq, _, _, _⟩ := hO.form
  rcases hq with h0 | ⟨b, o, rfl, hlt, hc⟩
  · cases h0
  have q1 : w1.cell? ⟨b, o, none⟩ = some (.string ⟨#[97]⟩) := hc 0 (by decide)
  have HB1 : Hid (Below w.heap.size w w1) := HB0.out.trans (hb1.mono HB0.out.size)
  clear hb1 hc hO hPf HP hlen
  have e1 : ([⟨#[97]⟩] : List ByteArray).length = 1 := rfl
  rw [e1]
  go_wp2
  go_ret
  exact ⟨rfl, HB1.out⟩
end
section
open Ring
/-- A change: its key, who was preferred, who is. -/
abbrev Ch := ByteArray × List ByteArray × List ByteArray
def chAt (cs : List Ch) (i : Nat) : Ch := cs.getD i (⟨#[]⟩, [], [])
/-- The changes of keys. -/
def chs (fa fb : ByteArray → List ByteArray) (keys : List ByteArray) : List Ch := keys.filterMap fun k => if fa k = fb k then none else some (k, fa k, fb k)
theorem keys_split {keys : List ByteArray} {i : Nat} (hi : i < keys.length) : keys = keys.take i ++ ([txt keys i] ++ keys.drop (i + 1)) := by
  conv => lhs; rw [← List.take_append_drop i keys]
  rw [List.drop_eq_getElem_cons hi, txt_getElem keys i hi]
  rfl
theorem chs_append (fa fb : ByteArray → List ByteArray) (a b : List ByteArray) : chs fa fb (a ++ b) = chs fa fb a ++ chs fa fb b := by
  unfold chs
  rw [List.filterMap_append]
theorem chs_one_same {fa fb : ByteArray → List ByteArray} {k : ByteArray} (h : fa k = fb k) : chs fa fb [k] = [] := by
  unfold chs
  simp [h]
theorem chs_one {fa fb : ByteArray → List ByteArray} {k : ByteArray} (h : fa k ≠ fb k) : chs fa fb [k] = [(k, fa k, fb k)] := by
  unfold chs
  simp [h]
theorem chs_succ {fa fb : ByteArray → List ByteArray} {keys : List ByteArray} {i : Nat} (hi : i < keys.length) : chs fa fb (keys.take (i + 1)) = chs fa fb (keys.take i) ++ chs fa fb [txt keys i] := by
  rw [← chs_append]
  congr 1
  rw [List.take_add_one, List.getElem?_eq_getElem hi, txt_getElem keys i hi]
  rfl
/-- Where key i changes, its change is the next. -/
theorem chs_at {fa fb : ByteArray → List ByteArray} {keys : List ByteArray} {i : Nat} (hi : i < keys.length) (h : fa (txt keys i) ≠ fb (txt keys i)) :
    (chs fa fb (keys.take i)).length < (chs fa fb keys).length ∧ chAt (chs fa fb keys) (chs fa fb (keys.take i)).length = (txt keys i, fa (txt keys i), fb (txt keys i)) := by
  have e : chs fa fb keys = chs fa fb (keys.take i) ++ ([(txt keys i, fa (txt keys i), fb (txt keys i))] ++ chs fa fb (keys.drop (i + 1))) := by
    conv => lhs; rw [keys_split hi, chs_append, chs_append, chs_one h]
  constructor
  · rw [e, List.length_append, List.length_append]
    show _ < _ + (1 + _)
    omega
  · unfold chAt
    conv => lhs; rw [e]
    rw [List.getD_eq_getElem?_getD, List.getElem?_append_right (Nat.le_refl _), Nat.sub_self]
    rfl
/-- In the world w the changes cs lie from p on. -/
def Chs (w : World) (p : Option Addr) (cs : List Ch) : Prop :=
  cs = [] ∨ ∃ b o, p = some ⟨b, o, none⟩ ∧ b < w.heap.size ∧ ∀ i, i < cs.length → ∃ pf cf pt ct, w.cell? ⟨b, o + i * 3, none⟩ = some (.string (chAt cs i).1) ∧ w.cell? ⟨b, o + i * 3 + 1, none⟩ = some (.slice pf (chAt cs i).2.1.length cf) ∧ w.cell? ⟨b, o + i * 3 + 2, none⟩ = some (.slice pt (chAt cs i).2.2.length ct) ∧ Strs w pf (chAt cs i).2.1 ∧ Strs w pt (chAt cs i).2.2
theorem Chs.below {w w' : World} {p : Option Addr} {cs : List Ch} (h : Chs w p cs) (hb : Below w.heap.size w w') : Chs w' p cs := by
  rcases h with h | ⟨b, o, hp, hlt, hc⟩
  · exact Or.inl h
  · refine Or.inr ⟨b, o, hp, Nat.lt_of_lt_of_le hlt hb.size, fun i hi => ?_⟩
    obtain ⟨pf, cf, pt, ct, h1, h2, h3, h4, h5⟩ := hc i hi
    exact ⟨pf, cf, pt, ct, (hb.cell (p := ⟨b, o + i * 3, none⟩) hlt).trans h1, (hb.cell (p := ⟨b, o + i * 3 + 1, none⟩) hlt).trans h2, (hb.cell (p := ⟨b, o + i * 3 + 2, none⟩) hlt).trans h3, h4.below hb, h5.below hb⟩
/-- The fault of moves. -/
def movesF (old now : List ByteArray) (m : Nat) (n : Int) : Int × Int := if 0 < (preferF old n).1 then preferF old n else if 0 < (preferF now n).1 then preferF now n else if 200 < m then (2, -1) else (0, -1)
/-- What Moves answers. -/
def MovesAns (w : World) (ad : Nat → Addr) (old now keys : List ByteArray) (n : Int) (e : Ending) : Prop :=
  (0 < (movesF old now keys.length n).1 ∧ ∃ q c ev, e = .returned (.tuple #[.slice q 0 c, ev]) ∧ ErrIs w ad ev (movesF old now keys.length n).1 (movesF old now keys.length n).2) ∨
  (¬ 0 < (movesF old now keys.length n).1 ∧ ∃ q c fa fb, e = .returned (.tuple #[.slice q (chs fa fb keys).length c, .nilIface]) ∧ Chs w q (chs fa fb keys) ∧
    ∀ k ∈ keys, (Pref (hashOf k) old (fa k) ∧ ((fa k).length : Int) = n) ∧ (Pref (hashOf k) now (fb k) ∧ ((fb k).length : Int) = n))
/-- Moves answers as it is asked to. -/
def MovesOk (ad : Nat → Addr) : Prop := ∀ (po pn pk : Option Addr) (old now keys : List ByteArray) (co cn ck : Nat) (n : Int) (w : World), old.length ≤ 1000 → now.length ≤ 1000 → keys.length ≤ 8796093021952 → old.length ≤ co → now.length ≤ cn → keys.length ≤ ck → (∀ x ∈ old, x.size ≤ 1000) → (∀ x ∈ now, x.size ≤ 1000) → (∀ x ∈ keys, x.size ≤ 1000) → Strs w po old → Strs w pn now → Strs w pk keys → Errs w ad →
  Calls Tryz.prog 15 #[.slice po old.length co, .slice pn now.length cn, .slice pk keys.length ck, .int .i64 n] w fun e w' => MovesAns w' ad old now keys n e ∧ Below w.heap.size w w'
end
set_option maxRecDepth 10000 in
theorem bare_any (c : Int) (w : World) : Calls Tryz.prog 16 #[.int .i64 c] w fun e w' => e = .returned (.agg #[.int .i64 c, .int .i64 (-1)]) ∧ Below w.heap.size w w' := by
  go_enter Tryz.func16, Tryz.ntmps16
  go_wp2
  refine bodyPost_ret (v := .agg #[.int .i64 c, .int .i64 (-1)]) (by simp [results, Tryz.results16, go_sem]) rfl ⟨rfl, ?_⟩
  exact (Below.refl _ _).alloc (Nat.le_refl _) _
set_option maxRecDepth 10000 in
theorem fine_any (w : World) : Calls Tryz.prog 22 #[] w fun e w' => e = .returned (.agg #[.int .i64 0, .int .i64 (-1)]) ∧ Below w.heap.size w w' := by
  go_enter Tryz.func22, Tryz.ntmps22
  go_wp2
  refine bodyPost_ret (v := .agg #[.int .i64 0, .int .i64 (-1)]) (by simp [results, Tryz.results22, go_sem]) rfl ⟨rfl, ?_⟩
  exact (Below.refl _ _).alloc (Nat.le_refl _) _
/-- A cell pair that a call laid for its result, while nothing below is written. -/
theorem pair_kept (w : World) (t : TypeId) (wq : World) (hb : Below (w.alloc (.cells #[.int .i64 0, .int .i64 0] t)).heap.size (w.alloc (.cells #[.int .i64 0, .int .i64 0] t)) wq) :
    wq.cell? ⟨w.heap.size, 0, none⟩ = some (.int .i64 0) ∧ wq.cell? ⟨w.heap.size, 1, none⟩ = some (.int .i64 0) ∧ wq.frozen? ⟨w.heap.size, 0, none⟩ = false ∧ wq.frozen? ⟨w.heap.size, 1, none⟩ = false := by
  have hlt : w.heap.size < (w.alloc (.cells #[.int .i64 0, .int .i64 0] t)).heap.size := by simp
  refine ⟨(hb.cell (p := ⟨w.heap.size, 0, none⟩) hlt).trans ?_, (hb.cell (p := ⟨w.heap.size, 1, none⟩) hlt).trans ?_, (hb.frozen (p := ⟨w.heap.size, 0, none⟩) hlt).trans ?_, (hb.frozen (p := ⟨w.heap.size, 1, none⟩) hlt).trans ?_⟩
  · rw [World.cell?_alloc_at _ _ _ _ rfl]; rfl
  · rw [World.cell?_alloc_at _ _ _ _ rfl]; rfl
  · unfold World.frozen?; rw [heap_alloc_new]; rfl
  · unfold World.frozen?; rw [heap_alloc_new]; rfl
theorem pair_below {w wq : World} {t : TypeId} (hb : Below (w.alloc (.cells #[.int .i64 0, .int .i64 0] t)).heap.size (w.alloc (.cells #[.int .i64 0, .int .i64 0] t)) wq) : Below w.heap.size w wq :=
  ((Below.refl _ w).alloc (Nat.le_refl _) _).trans (hb.mono (by simp))
theorem pair_set {w wq : World} (hb : Below w.heap.size w wq) (a b : Value) : Below w.heap.size w ((wq.setCell ⟨w.heap.size, 0, none⟩ a).setCell ⟨w.heap.size, 1, none⟩ b) := by
  refine (hb.setCell ?_ _).setCell ?_ _ <;> exact Nat.le_refl _
set_option maxRecDepth 10000 in
set_option maxHeartbeats 4000000 in
theorem nodesFault_bound (p : Option Addr) (l : List ByteArray) (c : Nat) (w : World) (hl : l.length ≤ 1000000) (h : l.length < 1 ∨ 16 < l.length) :
    Calls Tryz.prog 10 #[.slice p l.length c] w fun e w' => e = .returned (.agg #[.int .i64 2, .int .i64 (-1)]) ∧ Below w.heap.size w w' := by
  rcases h with h | h
  · go_enter Tryz.func10, Tryz.ntmps10
    go_wp2_with fail
    refine (bare_any 2 _).mono ?_
    rintro e w1 ⟨rfl, hb1⟩
    obtain ⟨q1, q2, f1, f2⟩ := pair_kept w _ w1 hb1
    have HB : Hid (Below w.heap.size w w1) := pair_below hb1
    clear hb1
    go_wp2
    refine bodyPost_ret (v := .agg #[.int .i64 2, .int .i64 (-1)]) (by simp [results, Tryz.results10, go_sem, q1, q2]) rfl ⟨rfl, pair_set HB.out _ _⟩
  · go_enter Tryz.func10, Tryz.ntmps10
    go_wp2_with fail
    refine (bare_any 2 _).mono ?_
    rintro e w1 ⟨rfl, hb1⟩
    obtain ⟨q1, q2, f1, f2⟩ := pair_kept w _ w1 hb1
    have HB : Hid (Below w.heap.size w w1) := pair_below hb1
    clear hb1
    go_wp2
    refine bodyPost_ret (v := .agg #[.int .i64 2, .int .i64 (-1)]) (by simp [results, Tryz.results10, go_sem, q1, q2]) rfl ⟨rfl, pair_set HB.out _ _⟩
set_option maxRecDepth 10000 in
set_option maxHeartbeats 4000000 in
theorem nodesFault_scan (p : Option Addr) (l : List ByteArray) (c : Nat) (w : World) (h1 : ¬ l.length < 1) (h2 : ¬ 16 < l.length) (hc : l.length ≤ c) (ht : ∀ x ∈ l, x.size ≤ 1000000) (hs : Strs w p l) :
    Calls Tryz.prog 10 #[.slice p l.length c] w fun e w' => e = .returned (.agg #[.int .i64 (scanF l 0 l.length).1, .int .i64 (scanF l 0 l.length).2]) ∧ Below w.heap.size w w' := by
  have HT : Hid (∀ i, i < l.length → (txt l i).size ≤ 1000000) := fun i hi => ht _ (txt_mem hi)
  have HS : Hid (Strs w p l) := hs
  have g1 : decide ((l.length : Int) < 1) = false := decide_eq_false (by omega)
  have g2 : decide (16 < (l.length : Int)) = false := decide_eq_false (by omega)
  obtain ⟨b, o, rfl⟩ : ∃ b o, p = some ⟨b, o, none⟩ := by
    rcases hs with h0 | ⟨b, o, hp, _⟩
    · rw [h0] at h1; exact absurd (by decide) h1
    · exact ⟨b, o, hp⟩
  clear hs ht
  obtain ⟨R, hR⟩ : ∃ R, R = scanF l 0 l.length := ⟨_, rfl⟩
  rw [← hR]
  have HR : Hid (R = scanF l 0 l.length) := hR
  clear hR
  go_enter Tryz.func10, Tryz.ntmps10
  go_wp2
  have HB0 : Hid (Below (w.alloc (.cells #[.int .i64 0, .int .i64 0] 31)).heap.size (w.alloc (.cells #[.int .i64 0, .int .i64 0] 31)) (w.alloc (.cells #[.int .i64 0, .int .i64 0] 31))) := Below.refl _ _
  have HK : Hid (∀ wq, Below (w.alloc (.cells #[.int .i64 0, .int .i64 0] 31)).heap.size (w.alloc (.cells #[.int .i64 0, .int .i64 0] 31)) wq → (wq.cell? ⟨w.heap.size, 0, none⟩ = some (.int .i64 0) ∧ wq.cell? ⟨w.heap.size, 1, none⟩ = some (.int .i64 0) ∧ wq.frozen? ⟨w.heap.size, 0, none⟩ = false ∧ wq.frozen? ⟨w.heap.size, 1, none⟩ = false) ∧ Below w.heap.size w wq) := fun wq h => ⟨pair_kept w _ wq h, pair_below h⟩
  generalize w.alloc (.cells #[.int .i64 0, .int .i64 0] 31) = w0 at HB0 HK ⊢
  go_loopw [3] (fun x wq => ∃ i : Nat, i ≤ l.length ∧ x = .int .i64 i ∧ scanF l i (l.length - i) = R ∧ Below w0.heap.size w0 wq) (fun x _ => l.length - (intOf x).toNat)
  case atStart => exact ⟨0, Nat.zero_le _, rfl, HR.out.symm, HB0.out⟩
  case round =>
    obtain ⟨i, hi, rfl, hsc, hbq⟩ := hrel
    obtain ⟨w1, rfl⟩ : ∃ w1, w1 = wr := ⟨_, rfl⟩
    have HSC : Hid (scanF l i (l.length - i) = R) := hsc
    have HBQ : Hid (Below w0.heap.size w0 w1) := hbq
    obtain ⟨⟨q1, q2, f1, f2⟩, hbw⟩ := HK.out w1 hbq
    have HBW : Hid (Below w.heap.size w w1) := hbw
    have HS1 : Hid (Strs w1 (some ⟨b, o, none⟩) l) := HS.out.below hbw
    clear hsc hbq hbw HR
    by_cases hil : i < l.length
    · have q3 : w1.cell? ⟨b, o + i, none⟩ = some (.string (txt l i)) := by
        rcases HS1.out with h0 | ⟨b', o', hp, _, hcell⟩
        · rw [h0] at hil; exact absurd hil (Nat.not_lt_zero _)
        · obtain ⟨rfl, rfl⟩ : b = b' ∧ o = o' := by simpa using hp
          exact hcell i hil
      have HNAME : Hid (∀ W, Calls Tryz.prog 20 #[.string (txt l i)] W fun e w' => e = .returned (.bool (isN (txt l i))) ∧ w' = W) := fun W => isName_any _ W (HT.out i hil)
      have HTAKE : Hid ((l.take i).length = i) := by show _ = _; rw [List.length_take]; omega
      have HSUC : Hid (scanF l i (l.length - i) = if faultAt l i = 0 then scanF l (i + 1) (l.length - (i + 1)) else (((faultAt l i : Nat) : Int), (i : Int))) := by
        show _ = _
        rw [show l.length - i = (l.length - (i + 1)) + 1 by omega]
        rfl
      by_cases hN : isN (txt l i) = true
      · by_cases hM : txt l i ∈ l.take i
        · have HA : Hid (R = (6, (i : Int))) := by
            show _ = _
            rw [← HSC.out, HSUC.out, faultAt_twice hN hM, if_neg (by decide)]
            rfl
          have HIX : Hid (∀ W, Strs W (some ⟨b, o, none⟩) (l.take i) → Calls Tryz.prog 21 #[.slice (some ⟨b, o, none⟩) (l.take i).length c, .string (txt l i)] W fun e w' => e = .returned (.int .i64 ((idxN (l.take i) (txt l i) : Nat) : Int)) ∧ w' = W) := fun W hW => index_hit _ _ c _ W (by rw [List.length_take]; omega) hW hM
          rw [hN] at HNAME
          rw [HTAKE.out] at HIX
          have HST : Hid (Strs w1 (some ⟨b, o, none⟩) (l.take i)) := HS1.out.take i
          clear HSC HSUC HT HTAKE hN hM
          generalize idxN (l.take i) (txt l i) = k at *
          generalize txt l i = t at *
          go_wp2_with fail
          refine (HNAME.out _).mono ?_
          rintro e w2 ⟨rfl, hw2⟩
          rw [hw2]
          clear hw2 w2 HNAME
          go_wp2
          go_quiet ((go_at_call 21; exact Calls.quiet_of_same (HIX.out _ (HST.out.drewN _))))
          go_wp2
          refine bodyPost_ret (v := .agg #[.int .i64 R.1, .int .i64 R.2]) (by rw [HA.out]; simp [results, Tryz.results10, go_sem, q1, q2]) rfl ⟨rfl, ?_⟩
          exact pair_set (below_drewN HBW.out _) _ _
        · have HA : Hid (scanF l (i + 1) (l.length - (i + 1)) = R) := by
            show _ = _
            rw [← HSC.out, HSUC.out, faultAt_fine hN hM, if_pos rfl]
          have HIX : Hid (∀ W, Strs W (some ⟨b, o, none⟩) (l.take i) → Calls Tryz.prog 21 #[.slice (some ⟨b, o, none⟩) (l.take i).length c, .string (txt l i)] W fun e w' => e = .returned (.int .i64 (-1)) ∧ w' = W) := fun W hW => index_miss _ _ c _ W (by rw [List.length_take]; omega) hW hM
          rw [hN] at HNAME
          rw [HTAKE.out] at HIX
          have HST : Hid (Strs w1 (some ⟨b, o, none⟩) (l.take i)) := HS1.out.take i
          clear HSC HSUC HT HTAKE hN hM
          generalize txt l i = t at *
          go_wp2_with fail
          refine (HNAME.out _).mono ?_
          rintro e w2 ⟨rfl, hw2⟩
          rw [hw2]
          clear hw2 w2 HNAME
          go_wp2
          go_quiet ((go_at_call 21; exact Calls.quiet_of_same (HIX.out _ (HST.out.drewN _))))
          go_wp2
          go_roundw
          case rel => exact ⟨i + 1, by omega, by go_num, HA.out, below_drewN HBQ.out _⟩
          case measure => simp [intOf]; omega
      · have hN' : isN (txt l i) = false := Bool.eq_false_iff.2 hN
        have HA : Hid (R = (4, (i : Int))) := by
          show _ = _
          rw [← HSC.out, HSUC.out, faultAt_name hN', if_neg (by decide)]
          rfl
        rw [hN'] at HNAME
        clear HSC HSUC HT HTAKE hN hN'
        generalize txt l i = t at *
        go_wp2_with fail
        refine (HNAME.out _).mono ?_
        rintro e w2 ⟨rfl, hw2⟩
        rw [hw2]
        clear hw2 w2 HNAME
        go_wp2
        refine bodyPost_ret (v := .agg #[.int .i64 R.1, .int .i64 R.2]) (by rw [HA.out]; simp [results, Tryz.results10, go_sem, q1, q2]) rfl ⟨rfl, ?_⟩
        exact pair_set HBW.out _ _
    · have hie : i = l.length := by omega
      subst hie
      have HA : Hid (R = (0, -1)) := by
        show _ = _
        rw [← HSC.out, Nat.sub_self]
        rfl
      clear HSC
      go_wp2_with fail
      refine (fine_any _).mono ?_
      rintro e w2 ⟨rfl, hb2⟩
      obtain ⟨⟨r1, r2, e1, e2⟩, hbw⟩ := HK.out w2 (HBQ.out.trans (hb2.mono HBQ.out.size))
      clear q1 q2 f1 f2 hb2
      go_wp2
      refine bodyPost_ret (v := .agg #[.int .i64 R.1, .int .i64 R.2]) (by rw [HA.out]; simp [results, Tryz.results10, go_sem, r1, r2]) rfl ⟨rfl, ?_⟩
      exact pair_set hbw _ _
theorem nodesFault_any (p : Option Addr) (l : List ByteArray) (c : Nat) (w : World) (hl : l.length ≤ 1000000) (hc : l.length ≤ c) (ht : ∀ x ∈ l, x.size ≤ 1000000) (hs : Strs w p l) :
    Calls Tryz.prog 10 #[.slice p l.length c] w fun e w' => e = .returned (.agg #[.int .i64 (nodesF l).1, .int .i64 (nodesF l).2]) ∧ Below w.heap.size w w' := by
  by_cases h : l.length < 1 ∨ 16 < l.length
  · rw [nodesF_bound h]
    exact nodesFault_bound p l c w hl h
  · rw [nodesF_scan (by omega) (by omega)]
    exact nodesFault_scan p l c w (by omega) (by omega) hc ht hs
end Go.Proofs.YtppcijpgalaohaaGreatDoor
