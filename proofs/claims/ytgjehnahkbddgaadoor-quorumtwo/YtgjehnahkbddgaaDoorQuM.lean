/- Configurations: what is wrong of one, how many are enough, who is in both of two lists. -/
import Derived.Test.YtgjehnahkbddgaaDoorNameM
namespace Go.Proofs.YtgjehnahkbddgaaDoor
/-- A configuration. -/
structure Cfg where
  n : Int
  k : Int
  L : List ByteArray
/-- What is wrong of a configuration: an error's number and place. -/
def cfgF (c : Cfg) : Int × Int := if 1 ≤ c.k ∧ c.k ≤ c.n ∧ c.n ≤ 12 then (if (c.L.length : Int) = c.n then nodesF c.L else (3, -1)) else (2, -1)
theorem cfgF_bound {c : Cfg} (h : ¬ (1 ≤ c.k ∧ c.k ≤ c.n ∧ c.n ≤ 12)) : cfgF c = (2, -1) := if_neg h
theorem cfgF_shape {c : Cfg} (h : 1 ≤ c.k ∧ c.k ≤ c.n ∧ c.n ≤ 12) (h2 : ¬ (c.L.length : Int) = c.n) : cfgF c = (3, -1) := by unfold cfgF; rw [if_pos h, if_neg h2]
theorem cfgF_nodes {c : Cfg} (h : 1 ≤ c.k ∧ c.k ≤ c.n ∧ c.n ≤ 12) (h2 : (c.L.length : Int) = c.n) : cfgF c = nodesF c.L := by unfold cfgF; rw [if_pos h, if_pos h2]
theorem cfgF_fine {c : Cfg} (h : ¬ 0 < (cfgF c).1) : (1 ≤ c.k ∧ c.k ≤ c.n ∧ c.n ≤ 12) ∧ (c.L.length : Int) = c.n ∧ cfgF c = (0, -1) ∧ (∀ x ∈ c.L, isN x = true) ∧ c.L.Nodup := by
  by_cases h1 : 1 ≤ c.k ∧ c.k ≤ c.n ∧ c.n ≤ 12
  · by_cases h2 : (c.L.length : Int) = c.n
    · rw [cfgF_nodes h1 h2] at h ⊢
      have h3 : (nodesF c.L).1 ≤ 0 := by omega
      exact ⟨h1, h2, (nodesF_zero h3).1, (nodesF_fine h3).1, (nodesF_fine h3).2⟩
    · rw [cfgF_shape h1 h2] at h
      exact absurd (by decide) h
  · rw [cfgF_bound h1] at h
    exact absurd (by decide) h
/-- How many are enough: N and K together, halved, up. -/
def enoughN (c : Cfg) : Nat := (c.n.toNat + c.k.toNat + 1) / 2
theorem enoughN_le {c : Cfg} (h : 1 ≤ c.k ∧ c.k ≤ c.n ∧ c.n ≤ 12) : (enoughN c : Int) ≤ c.n ∧ 1 ≤ enoughN c ∧ enoughN c ≤ 12 := by unfold enoughN; omega
/-- The first of a list that is no member, from place i on. -/
def awayAt (L : List ByteArray) : List ByteArray → Nat → Option Nat
  | [], _ => none
  | x :: l, i => if inL L x then awayAt L l (i + 1) else some i
/-- What is wrong of two lists: the first of a, then of b, that is no member. -/
def meetF (L a b : List ByteArray) : Int × Int := match awayAt L a 0 with | some i => (5, (i : Int)) | none => (match awayAt L b 0 with | some i => (5, (i : Int)) | none => (0, -1))
/-- Who is in both, in the order of members. -/
def meetL (L a b : List ByteArray) : List ByteArray := L.filter fun x => inL a x && inL b x
theorem awayAt_none {L : List ByteArray} : ∀ (l : List ByteArray) (i : Nat), (∀ x ∈ l, x ∈ L) → awayAt L l i = none
  | [], _, _ => rfl
  | x :: l, i, h => by
    unfold awayAt
    rw [if_pos (inL_iff.2 (h x (by simp)))]
    exact awayAt_none l (i + 1) (fun y hy => h y (by simp [hy]))
theorem meetF_fine {L a b : List ByteArray} (ha : ∀ x ∈ a, x ∈ L) (hb : ∀ x ∈ b, x ∈ L) : meetF L a b = (0, -1) := by
  unfold meetF
  rw [awayAt_none a 0 ha, awayAt_none b 0 hb]
theorem awayAt_first {L : List ByteArray} : ∀ (l : List ByteArray) (s i : Nat), i < l.length → (∀ j, j < i → txt l j ∈ L) → txt l i ∉ L → awayAt L l s = some (s + i)
  | x :: l, s, 0, _, _, hn => by
    unfold awayAt
    have e : inL L x = false := by
      cases h : inL L x with
      | false => rfl
      | true => exact absurd (inL_iff.1 h) hn
    rw [if_neg (by rw [e]; decide)]
    rfl
  | x :: l, s, i + 1, h, hall, hn => by
    unfold awayAt
    have hx : x ∈ L := hall 0 (by omega)
    rw [if_pos (inL_iff.2 hx), awayAt_first l (s + 1) i (by simpa using h) (fun j hj => hall (j + 1) (by omega)) hn]
    congr 1
    omega
/-- The first that is no member, among a and then b. -/
theorem meetF_a {L a b : List ByteArray} {i : Nat} (h : i < a.length) (hall : ∀ j, j < i → txt a j ∈ L) (hn : txt a i ∉ L) : meetF L a b = (5, (i : Int)) := by
  unfold meetF
  rw [awayAt_first a 0 i h hall hn, Nat.zero_add]
theorem meetF_b {L a b : List ByteArray} {i : Nat} (ha : ∀ x ∈ a, x ∈ L) (h : i < b.length) (hall : ∀ j, j < i → txt b j ∈ L) (hn : txt b i ∉ L) : meetF L a b = (5, (i : Int)) := by
  unfold meetF
  rw [awayAt_none a 0 ha, awayAt_first b 0 i h hall hn, Nat.zero_add]
theorem meetF_zero {L a b : List ByteArray} (h : ¬ 0 < (meetF L a b).1) : meetF L a b = (0, -1) := by
  unfold meetF at *
  cases h1 : awayAt L a 0 with
  | some i => rw [h1] at h; exact absurd (by show (0 : Int) < 5; decide) h
  | none =>
    rw [h1] at h
    simp only [] at h ⊢
    cases h2 : awayAt L b 0 with
    | some i => rw [h2] at h; exact absurd (by show (0 : Int) < 5; decide) h
    | none => rfl
theorem filter_takeM {L : List ByteArray} {P : ByteArray → Bool} {i : Nat} (h : i < L.length) : (L.take (i + 1)).filter P = (L.take i).filter P ++ (if P (txt L i) then [txt L i] else []) := by
  rw [List.take_add_one, List.filter_append, List.getElem?_eq_getElem h, txt_getElem L i h]
  congr 1
  show [L[i]].filter P = _
  rw [List.filter_cons]
  split <;> rfl
theorem filter_count {L : List ByteArray} {P Q : ByteArray → Bool} : (L.filter P).length + (L.filter Q).length ≤ (L.filter fun x => P x && Q x).length + L.length := by
  induction L with
  | nil => simp
  | cons x L ih =>
    simp only [List.filter_cons, List.length_cons]
    cases P x <;> cases Q x <;> simp <;> omega
/-- Unlike members: as many as of the members that are among them. -/
theorem filter_all {L a : List ByteArray} (hL : L.Nodup) (ha : a.Nodup) (hs : ∀ x ∈ a, x ∈ L) : (L.filter fun x => inL a x).length = a.length := by
  have h1 : (L.filter fun x => inL a x).Perm a := by
    rw [List.perm_ext_iff_of_nodup (hL.filter _) ha]
    intro x
    rw [List.mem_filter, inL_iff]
    exact ⟨fun h => h.2, fun h => ⟨hs x h, h⟩⟩
  exact h1.length_eq
/-- Two quorums have at least K in common. -/
theorem two_meet {c : Cfg} {a b : List ByteArray} (h : 1 ≤ c.k ∧ c.k ≤ c.n ∧ c.n ≤ 12) (hl : (c.L.length : Int) = c.n) (hL : c.L.Nodup) (ha : a.Nodup) (hb : b.Nodup) (hsa : ∀ x ∈ a, x ∈ c.L) (hsb : ∀ x ∈ b, x ∈ c.L) (hla : a.length = enoughN c) (hlb : b.length = enoughN c) :
    c.k ≤ ((meetL c.L a b).length : Int) := by
  have h1 := filter_count (L := c.L) (P := fun x => inL a x) (Q := fun x => inL b x)
  rw [filter_all hL ha hsa, filter_all hL hb hsb] at h1
  unfold meetL
  unfold enoughN at hla hlb
  omega
end Go.Proofs.YtgjehnahkbddgaaDoor
