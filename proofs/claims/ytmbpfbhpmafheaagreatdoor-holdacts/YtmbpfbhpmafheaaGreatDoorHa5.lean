/- Texts laid together. -/
import Derived.Test.YtmbpfbhpmafheaaGreatDoorHa4
import Derived.Laws.IdiomRangeMap
import Derived.Deep.RegionWith
import Derived.Lib.AppendZerosOnto
import Derived.Lib.Overlaps
import Derived.Laws.CopyRow
import Derived.Laws.Externs
import Derived.Deep.RegionLaw
namespace Go.Proofs.YtmbpfbhpmafheaaGreatDoor
open Go.RowKit
/-- Texts in the language's own order. -/
def kl (x y : ByteArray) : Prop := Op.bytesLess x.toList y.toList = true
theorem bless_irrefl : ∀ l : List UInt8, Op.bytesLess l l = false
  | [] => rfl
  | a :: l => by simp [Op.bytesLess, bless_irrefl l]
theorem bless_trans : ∀ {l m n : List UInt8}, Op.bytesLess l m = true → Op.bytesLess m n = true → Op.bytesLess l n = true
  | _, [], _, h, _ => by simp [Op.bytesLess] at h
  | _, _ :: _, [], _, h => by simp [Op.bytesLess] at h
  | [], _ :: _, _ :: _, _, _ => rfl
  | a :: l, b :: m, c :: n, h1, h2 => by
    simp only [Op.bytesLess, Bool.or_eq_true, decide_eq_true_eq, Bool.and_eq_true, beq_iff_eq] at h1 h2 ⊢
    rcases h1 with h1 | ⟨e1, h1⟩
    · rcases h2 with h2 | ⟨e2, h2⟩
      · exact Or.inl (UInt8.lt_trans h1 h2)
      · exact Or.inl (e2 ▸ h1)
    · rcases h2 with h2 | ⟨e2, h2⟩
      · exact Or.inl (e1 ▸ h2)
      · exact Or.inr ⟨e1.trans e2, bless_trans h1 h2⟩
theorem bless_total : ∀ {l m : List UInt8}, l ≠ m → Op.bytesLess l m = true ∨ Op.bytesLess m l = true
  | [], [], h => absurd rfl h
  | [], _ :: _, _ => Or.inl rfl
  | _ :: _, [], _ => Or.inr rfl
  | a :: l, b :: m, h => by
    simp only [Op.bytesLess, Bool.or_eq_true, decide_eq_true_eq, Bool.and_eq_true, beq_iff_eq]
    by_cases e : a = b
    · subst e
      rcases bless_total (l := l) (m := m) (fun e2 => h (by rw [e2])) with h2 | h2
      · exact Or.inl (Or.inr ⟨rfl, h2⟩)
      · exact Or.inr (Or.inr ⟨rfl, h2⟩)
    · rcases (show a < b ∨ b < a by
        rcases Nat.lt_or_ge a.toNat b.toNat with h3 | h3
        · exact Or.inl (UInt8.lt_iff_toNat_lt.2 h3)
        · exact Or.inr (UInt8.lt_iff_toNat_lt.2 (Nat.lt_of_le_of_ne h3 (fun e2 => e (UInt8.toNat_inj.1 e2.symm))))) with h3 | h3
      · exact Or.inl (Or.inl h3)
      · exact Or.inr (Or.inl h3)
theorem kl_irrefl (x : ByteArray) : ¬ kl x x := by unfold kl; rw [bless_irrefl]; decide
theorem kl_trans {x y z : ByteArray} (h1 : kl x y) (h2 : kl y z) : kl x z := bless_trans h1 h2
theorem kl_total {x y : ByteArray} (h : x ≠ y) : kl x y ∨ kl y x := bless_total (toList_ne h)
/-- Tags in their order. -/
theorem lessB_iff {a b : Int × Int} : lessB a b = true ↔ a.1 < b.1 ∨ a.1 = b.1 ∧ a.2 < b.2 := by simp [lessB]
theorem lessB_irrefl (a : Int × Int) : lessB a a = false := by simp [lessB]
theorem lessB_trans {a b c : Int × Int} (h1 : lessB a b = true) (h2 : lessB b c = true) : lessB a c = true := by
  rw [lessB_iff] at *
  omega
theorem lessB_total {a b : Int × Int} (h : a ≠ b) : lessB a b = true ∨ lessB b a = true := by
  rw [lessB_iff, lessB_iff]
  obtain ⟨a1, a2⟩ := a
  obtain ⟨b1, b2⟩ := b
  simp only [ne_eq, Prod.mk.injEq] at h ⊢
  omega
/-- The tag of a version. -/
def tagOf (v : Ver) : Int × Int := (v.n, v.who)
theorem before_iff {x : Kep} {key : ByteArray} {v : Ver} : beforeB x key v = true ↔ kl x.1 key ∨ x.1 = key ∧ lessB (tagOf x.2) (tagOf v) = true := by
  unfold beforeB kl tagOf
  simp
theorem before_trans {x y z : Kep} (h1 : beforeB x y.1 y.2 = true) (h2 : beforeB y z.1 z.2 = true) : beforeB x z.1 z.2 = true := by
  rw [before_iff] at *
  rcases h1 with h1 | ⟨e1, h1⟩
  · rcases h2 with h2 | ⟨e2, _⟩
    · exact Or.inl (kl_trans h1 h2)
    · exact Or.inl (e2 ▸ h1)
  · rcases h2 with h2 | ⟨e2, h2⟩
    · exact Or.inl (e1 ▸ h2)
    · exact Or.inr ⟨e1.trans e2, lessB_trans h1 h2⟩
theorem before_irrefl (x : Kep) : ¬ beforeB x x.1 x.2 = true := by
  rw [before_iff]
  rintro (h | ⟨_, h⟩)
  · exact kl_irrefl _ h
  · rw [lessB_irrefl] at h; cases h
theorem before_total {x y : Kep} (h : ¬ (x.1 = y.1 ∧ tagOf x.2 = tagOf y.2)) : beforeB x y.1 y.2 = true ∨ beforeB y x.1 x.2 = true := by
  rw [before_iff, before_iff]
  by_cases e : x.1 = y.1
  · rcases lessB_total (a := tagOf x.2) (b := tagOf y.2) (fun e2 => h ⟨e, e2⟩) with h2 | h2
    · exact Or.inl (Or.inr ⟨e, h2⟩)
    · exact Or.inr (Or.inr ⟨e.symm, h2⟩)
  · rcases kl_total e with h2 | h2
    · exact Or.inl (Or.inl h2)
    · exact Or.inr (Or.inl h2)
/-- What is kept stands by key, then by tag. -/
def SortedK (L : List Kep) : Prop := L.Pairwise fun x y => beforeB x y.1 y.2 = true
theorem getL_append (L M : List Kep) (key : ByteArray) : getL (L ++ M) key = getL L key ++ getL M key := by
  unfold getL
  rw [List.filter_append, List.map_append]
theorem getL_one_yes {x : Kep} {key : ByteArray} (h : x.1 = key) : getL [x] key = [x.2] := by
  unfold getL
  rw [List.filter_cons_of_pos (by simpa using h)]
  rfl
theorem getL_one_no {x : Kep} {key : ByteArray} (h : x.1 ≠ key) : getL [x] key = [] := by
  unfold getL
  rw [List.filter_cons_of_neg (by simpa using h)]
  rfl
theorem mem_getL {L : List Kep} {key : ByteArray} {v : Ver} : v ∈ getL L key ↔ (key, v) ∈ L := by
  unfold getL
  rw [List.mem_map]
  constructor
  · rintro ⟨x, hx, rfl⟩
    obtain ⟨h1, h2⟩ := List.mem_filter.1 hx
    have : x.1 = key := by simpa using h2
    rw [← this]
    exact h1
  · intro h
    exact ⟨(key, v), List.mem_filter.2 ⟨h, by simp⟩, rfl⟩
/-- A key's versions rise. -/
theorem getL_sorted {L : List Kep} (h : SortedK L) (key : ByteArray) : (getL L key).Pairwise fun x y => lessB (tagOf x) (tagOf y) = true := by
  unfold getL
  rw [List.pairwise_map]
  have h2 : (L.filter fun x => decide (x.1 = key)).Pairwise fun x y => beforeB x y.1 y.2 = true := h.filter _
  refine h2.imp_of_mem ?_
  intro x y hx hy hb
  have hx' : x.1 = key := by simpa using (List.mem_filter.1 hx).2
  have hy' : y.1 = key := by simpa using (List.mem_filter.1 hy).2
  rcases before_iff.1 hb with h3 | ⟨_, h3⟩
  · rw [hx', hy'] at h3
    exact absurd h3 (kl_irrefl _)
  · exact h3
/-! keys -/
theorem keysTo_congr {L M : List Kep} : ∀ i, (∀ j, j < i → kepAt L j = kepAt M j) → keysTo L i = keysTo M i
  | 0, _ => rfl
  | i + 1, h => by
    have ih := keysTo_congr (L := L) (M := M) i (fun j hj => h j (by omega))
    show (if _ then _ else _) = (if _ then _ else _)
    rw [ih, h i (by omega)]
theorem kepAt_append_left {L M : List Kep} {j : Nat} (h : j < L.length) : kepAt (L ++ M) j = kepAt L j := by
  unfold kepAt
  rw [List.getD_eq_getElem?_getD, List.getD_eq_getElem?_getD, List.getElem?_append_left h]
theorem kepAt_snoc (L : List Kep) (x : Kep) : kepAt (L ++ [x]) L.length = x := by
  unfold kepAt
  rw [List.getD_eq_getElem?_getD, List.getElem?_append_right (Nat.le_refl _), Nat.sub_self]
  rfl
/-- The keys that have a version, as the model tells them. -/
def keysL (L : List Kep) : List ByteArray := keysTo L L.length
theorem keysL_snoc (L : List Kep) (x : Kep) : keysL (L ++ [x]) = if (keysL L).length = 0 ∨ txt (keysL L) ((keysL L).length - 1) ≠ x.1 then keysL L ++ [x.1] else keysL L := by
  have e : keysTo (L ++ [x]) L.length = keysL L := keysTo_congr _ fun j hj => kepAt_append_left hj
  unfold keysL at *
  rw [List.length_append]
  show (if _ then _ else _) = _
  rw [e, kepAt_snoc]
theorem txt_last {l : List ByteArray} {x : ByteArray} : txt (l ++ [x]) ((l ++ [x]).length - 1) = x := by
  unfold txt
  rw [List.length_append, List.getD_eq_getElem?_getD, List.getElem?_append_right (by simp)]
  simp
/-- The kept ones by their keys. -/
def byKey (K : List ByteArray) (L : List Kep) : List Kep := K.flatMap fun k => (getL L k).map fun v => (k, v)
theorem byKey_congr {K : List ByteArray} {L M : List Kep} (h : ∀ k ∈ K, getL L k = getL M k) : byKey K L = byKey K M := by
  induction K with
  | nil => rfl
  | cons a K ih =>
    have ih' := ih fun k hk => h k (by simp [hk])
    unfold byKey at ih' ⊢
    rw [List.flatMap_cons, List.flatMap_cons, ih', h a (by simp)]
theorem byKey_append (K K' : List ByteArray) (L : List Kep) : byKey (K ++ K') L = byKey K L ++ byKey K' L := by
  unfold byKey
  rw [List.flatMap_append]
structure KeysOk (L : List Kep) : Prop where
  rising : (keysL L).Pairwise kl
  mem : ∀ k, k ∈ keysL L ↔ getL L k ≠ []
  all : byKey (keysL L) L = L
  last : ∀ x, L.getLast? = some x → (keysL L).getLast? = some x.1
theorem list_snoc_ind {α : Type} {P : List α → Prop} (h0 : P []) (h1 : ∀ l x, P l → P (l ++ [x])) : ∀ l, P l := by
  intro l
  rw [← List.reverse_reverse l]
  induction l.reverse with
  | nil => exact h0
  | cons a l ih => rw [List.reverse_cons]; exact h1 _ _ ih
theorem keysOk : ∀ L : List Kep, SortedK L → KeysOk L := by
  refine list_snoc_ind ?_ ?_
  · intro _
    refine ⟨List.Pairwise.nil, fun k => ?_, rfl, fun x h => by simp at h⟩
    show k ∈ ([] : List ByteArray) ↔ getL [] k ≠ []
    simp [getL]
  · intro L x ih hs
    obtain ⟨hs1, _, hs2⟩ := List.pairwise_append.1 hs
    have hs2' : ∀ y ∈ L, beforeB y x.1 x.2 = true := fun y hy => hs2 y hy x (by simp)
    have I := ih hs1
    have hkey : ∀ k ∈ keysL L, kl k x.1 ∨ k = x.1 := fun k hk => by
      have h1 := (I.mem k).1 hk
      obtain ⟨v, hv⟩ := List.exists_mem_of_ne_nil _ h1
      rcases before_iff.1 (hs2' _ (mem_getL.1 hv)) with h2 | ⟨h2, _⟩
      · exact Or.inl h2
      · exact Or.inr h2
    have hgn : ∀ k, k ≠ x.1 → getL (L ++ [x]) k = getL L k := fun k hk => by rw [getL_append, getL_one_no (Ne.symm hk), List.append_nil]
    have hgy : getL (L ++ [x]) x.1 = getL L x.1 ++ [x.2] := by rw [getL_append, getL_one_yes rfl]
    by_cases hc : (keysL L).length = 0 ∨ txt (keysL L) ((keysL L).length - 1) ≠ x.1
    · have e : keysL (L ++ [x]) = keysL L ++ [x.1] := by rw [keysL_snoc, if_pos hc]
      have hnew : x.1 ∉ keysL L := by
        intro hin
        rcases hc with h0 | h0
        · rw [List.length_eq_zero_iff.1 h0] at hin; cases hin
        · have hne : keysL L ≠ [] := List.ne_nil_of_mem hin
          obtain ⟨K, k, hK⟩ : ∃ K k, keysL L = K ++ [k] := ⟨_, _, (List.dropLast_concat_getLast hne).symm⟩
          rw [hK, txt_last] at h0
          have hkk : k ∈ keysL L := by rw [hK]; simp
          have h1 : kl k x.1 := (hkey k hkk).resolve_right h0
          have hr := I.rising
          rw [hK] at hr hin
          obtain ⟨_, _, hr2⟩ := List.pairwise_append.1 hr
          rcases List.mem_append.1 hin with h3 | h3
          · exact kl_irrefl _ (kl_trans (hr2 _ h3 k (by simp)) h1)
          · exact h0 (List.mem_singleton.1 h3).symm
      refine ⟨?_, fun k => ?_, ?_, fun y hy => ?_⟩
      · rw [e]
        refine List.pairwise_append.2 ⟨I.rising, List.pairwise_singleton _ _, fun a ha b hb => ?_⟩
        rw [List.mem_singleton.1 hb]
        rcases hkey a ha with h1 | h1
        · exact h1
        · exact absurd (h1 ▸ ha) hnew
      · rw [e, List.mem_append, List.mem_singleton]
        by_cases hk : k = x.1
        · subst hk
          rw [hgy]
          simp
        · rw [hgn k hk, I.mem k]
          simp [hk]
      · rw [e, byKey_append, byKey_congr (M := L) (fun k hk => hgn k (fun e2 => hnew (e2 ▸ hk))), I.all]
        have h0 : getL L x.1 = [] := by
          cases hg : getL L x.1 with
          | nil => rfl
          | cons a l => exact absurd ((I.mem x.1).2 (by rw [hg]; simp)) hnew
        unfold byKey
        rw [List.flatMap_cons, hgy, h0]
        simp
      · rw [e]
        simp at hy ⊢
        exact congrArg Prod.fst hy
    · have e : keysL (L ++ [x]) = keysL L := by rw [keysL_snoc, if_neg hc]
      have hne : keysL L ≠ [] := fun h0 => hc (Or.inl (by rw [h0]; rfl))
      obtain ⟨K, k, hK⟩ : ∃ K k, keysL L = K ++ [k] := ⟨_, _, (List.dropLast_concat_getLast hne).symm⟩
      have hkx : k = x.1 := by
        refine Classical.byContradiction fun h0 => hc (Or.inr ?_)
        rw [hK, txt_last]
        exact h0
      subst hkx
      have hr := I.rising
      rw [hK] at hr
      obtain ⟨_, _, hr2⟩ := List.pairwise_append.1 hr
      have hnk : ∀ a ∈ K, a ≠ x.1 := fun a ha e2 => kl_irrefl _ (e2 ▸ hr2 a ha x.1 (by simp))
      refine ⟨by rw [e]; exact I.rising, fun a => ?_, ?_, fun y hy => ?_⟩
      · rw [e]
        by_cases hk : a = x.1
        · subst hk
          rw [hgy, hK]
          simp
        · rw [hgn a hk, I.mem a]
      · have hall := I.all
        rw [e, hK, byKey_append, byKey_congr (M := L) (fun a ha => hgn a (hnk a ha))]
        rw [hK, byKey_append] at hall
        unfold byKey at hall ⊢
        simp only [List.flatMap_cons, List.flatMap_nil, List.append_nil] at hall ⊢
        rw [hgy, List.map_append, ← List.append_assoc, hall]
        rfl
      · rw [e, hK]
        simp at hy ⊢
        exact congrArg Prod.fst hy
/-- As many as all keys have together. -/
theorem keys_sum {L : List Kep} (h : SortedK L) : ((keysL L).map fun k => (getL L k).length).sum = L.length := by
  have e := congrArg List.length (keysOk L h).all
  unfold byKey at e
  rw [List.length_flatMap] at e
  simpa using e
theorem keysL_nodup {L : List Kep} (h : SortedK L) : (keysL L).Nodup := by
  have hr := (keysOk L h).rising
  unfold List.Nodup
  refine hr.imp ?_
  intro a b h1 e
  subst e
  exact kl_irrefl _ h1
theorem keysL_le (L : List Kep) : (keysL L).length ≤ L.length := keysTo_le L _
/-! what is put -/
/-- Where a version goes among those of its key. -/
def placeV (l : List Ver) (t : Int × Int) : Nat := l.findIdx fun x => !lessB (tagOf x) t
theorem findIdx_split {α : Type} {p : α → Bool} {A B : List α} (hA : ∀ x ∈ A, p x = false) (hB : ∀ x ∈ B, p x = true) : (A ++ B).findIdx p = A.length := by
  rw [List.findIdx_append, List.findIdx_eq_length.2 hA]
  cases B with
  | nil => simp
  | cons b B => simp [List.findIdx_cons, hB b (by simp)]
theorem place_take {L : List Kep} {key : ByteArray} {v : Ver} : ∀ x ∈ L.take (placeN L key v), beforeB x key v = true := fun x hx => by
  obtain ⟨j, hj, rfl⟩ := List.getElem_of_mem hx
  have hj' : j < placeN L key v := by rw [List.length_take] at hj; omega
  have := placeN_before hj'
  rw [List.getElem_take]
  have hl : j < L.length := Nat.lt_of_lt_of_le hj' (placeN_le L key v)
  have e := kepAt_get hl
  rw [List.getElem?_eq_getElem hl] at e
  rw [Option.some.inj e]
  exact this
theorem place_drop {L : List Kep} (h : SortedK L) {key : ByteArray} {v : Ver} : ∀ x ∈ L.drop (placeN L key v), beforeB x key v = false := fun x hx => by
  obtain ⟨j, hj, rfl⟩ := List.getElem_of_mem hx
  rw [List.length_drop] at hj
  have hp : placeN L key v < L.length := by omega
  have h0 := placeN_here hp
  rw [List.getElem_drop]
  have e0 := kepAt_get hp
  rw [List.getElem?_eq_getElem hp] at e0
  rw [← Option.some.inj e0] at h0
  cases j with
  | zero => exact h0
  | succ j =>
    have hb := List.pairwise_iff_getElem.1 h (placeN L key v) (placeN L key v + (j + 1)) hp (by omega) (by omega)
    cases hx : beforeB (L[placeN L key v + (j + 1)]'(by omega)) key v
    · rfl
    · rw [before_trans (z := (key, v)) hb hx] at h0
      cases h0
theorem getL_split (L : List Kep) (key : ByteArray) (v : Ver) : getL L key = getL (L.take (placeN L key v)) key ++ getL (L.drop (placeN L key v)) key := by
  rw [← getL_append, List.take_append_drop]
theorem placeV_eq {L : List Kep} (h : SortedK L) (key : ByteArray) (v : Ver) : placeV (getL L key) (tagOf v) = (getL (L.take (placeN L key v)) key).length := by
  unfold placeV
  rw [getL_split L key v]
  refine findIdx_split (fun x hx => ?_) (fun x hx => ?_)
  · rcases before_iff.1 (place_take _ (mem_getL.1 hx)) with h1 | ⟨_, h1⟩
    · exact absurd h1 (kl_irrefl _)
    · rw [h1]; rfl
  · have h1 := place_drop h _ (mem_getL.1 hx)
    cases hl : lessB (tagOf x) (tagOf v)
    · rfl
    · rw [before_iff.2 (Or.inr ⟨rfl, hl⟩)] at h1
      cases h1
theorem getL_putL {L : List Kep} (h : SortedK L) (key : ByteArray) (v : Ver) : getL (putL L key v) key = (getL L key).take (placeV (getL L key) (tagOf v)) ++ [v] ++ (getL L key).drop (placeV (getL L key) (tagOf v)) := by
  rw [placeV_eq h]
  unfold putL
  rw [getL_append, getL_append, getL_one_yes rfl]
  have e := getL_split L key v
  rw [e, List.take_left, List.drop_left]
theorem getL_putL_other (L : List Kep) {key k : ByteArray} (v : Ver) (hk : k ≠ key) : getL (putL L key v) k = getL L k := by
  unfold putL
  rw [getL_append, getL_append, getL_one_no (Ne.symm hk), List.append_nil, ← getL_append, List.take_append_drop]
theorem mem_putL {L : List Kep} {key : ByteArray} {v : Ver} {x : Kep} : x ∈ putL L key v ↔ x ∈ L ∨ x = (key, v) := by
  unfold putL
  rw [List.mem_append, List.mem_append, List.mem_singleton]
  conv => rhs; rw [← List.take_append_drop (placeN L key v) L, List.mem_append]
  constructor
  · rintro ((h | h) | h) <;> simp [h]
  · rintro ((h | h) | h) <;> simp [h]
theorem putL_length (L : List Kep) (key : ByteArray) (v : Ver) : (putL L key v).length = L.length + 1 := by
  unfold putL
  have := placeN_le L key v
  simp
  omega
theorem putL_sorted {L : List Kep} (h : SortedK L) {key : ByteArray} {v : Ver} (hn : ∀ x ∈ getL L key, tagOf x ≠ tagOf v) : SortedK (putL L key v) := by
  have hs := h
  rw [← List.take_append_drop (placeN L key v) L] at hs
  unfold SortedK at hs
  obtain ⟨h1, h2, h3⟩ := List.pairwise_append.1 hs
  unfold putL SortedK
  refine List.pairwise_append.2 ⟨List.pairwise_append.2 ⟨h1, List.pairwise_singleton _ _, fun a ha b hb => ?_⟩, h2, fun a ha b hb => ?_⟩
  · rw [List.mem_singleton.1 hb]
    exact place_take a ha
  · rcases List.mem_append.1 ha with ha | ha
    · exact h3 a ha b hb
    · rw [List.mem_singleton.1 ha]
      have hb0 := place_drop h b hb
      have hne : ¬ ((key, v).1 = b.1 ∧ tagOf (key, v).2 = tagOf b.2) := fun e => by
        obtain ⟨e1, e2⟩ := e
        have hbL : b ∈ L := List.mem_of_mem_drop hb
        refine hn b.2 (mem_getL.2 ?_) e2.symm
        have e3 : b = (key, b.2) := by
          obtain ⟨b1, b2⟩ := b
          simp only at e1
          rw [e1]
        rw [← e3]
        exact hbL
      rcases before_total hne with h4 | h4
      · exact h4
      · have h5 : beforeB b key v = true := h4
        rw [hb0] at h5
        cases h5
/-- Is one there with this tag? -/
theorem putScan_none {L : List Kep} {key : ByteArray} {v : Ver} (hn : ∀ x ∈ getL L key, tagOf x ≠ tagOf v) : ∀ m i, i + m = L.length → putScan L key v i m = if 60 ≤ L.length then 7 else 0
  | 0, _, _ => rfl
  | m + 1, i, h => by
    have hi : i < L.length := by omega
    have hs : sameTag (kepAt L i) key v = false := by
      cases hc : sameTag (kepAt L i) key v
      · rfl
      · unfold sameTag at hc
        simp only [Bool.and_eq_true, decide_eq_true_eq] at hc
        refine absurd ?_ (hn (kepAt L i).2 (mem_getL.2 ?_))
        · unfold tagOf; rw [hc.1.2, hc.2]
        · rw [← hc.1.1]; exact List.mem_of_getElem? (kepAt_get hi)
    show (if _ then _ else _) = _
    rw [hs]
    exact putScan_none hn m (i + 1) (by omega)
theorem tag_inj {L : List Kep} (h : SortedK L) {key : ByteArray} {x y : Ver} (hx : x ∈ getL L key) (hy : y ∈ getL L key) (e : tagOf x = tagOf y) : x = y := by
  have hs := getL_sorted h key
  obtain ⟨i, hi, rfl⟩ := List.getElem_of_mem hx
  obtain ⟨j, hj, rfl⟩ := List.getElem_of_mem hy
  rcases Nat.lt_trichotomy i j with h1 | h1 | h1
  · have := List.pairwise_iff_getElem.1 hs i j hi hj h1
    rw [e, lessB_irrefl] at this
    cases this
  · subst h1; rfl
  · have := List.pairwise_iff_getElem.1 hs j i hj hi h1
    rw [e, lessB_irrefl] at this
    cases this
theorem putScan_some {L : List Kep} (h : SortedK L) {key : ByteArray} {v x : Ver} (hx : x ∈ getL L key) (ht : tagOf x = tagOf v) : ∀ m i, i + m = L.length → (∃ j, i ≤ j ∧ j < L.length ∧ kepAt L j = (key, x)) → putScan L key v i m = if x = v then -1 else 6
  | 0, i, hm, ⟨j, h1, h2, _⟩ => by omega
  | m + 1, i, hm, ⟨j, h1, h2, h3⟩ => by
    have hi : i < L.length := by omega
    show (if _ then _ else _) = _
    by_cases hc : sameTag (kepAt L i) key v = true
    · rw [if_pos hc]
      unfold sameTag at hc
      simp only [Bool.and_eq_true, decide_eq_true_eq] at hc
      have e : (kepAt L i).2 = x := by
        refine tag_inj h (key := key) (mem_getL.2 ?_) hx ?_
        · rw [← hc.1.1]; exact List.mem_of_getElem? (kepAt_get hi)
        · rw [ht]; unfold tagOf; rw [hc.1.2, hc.2]
      rw [e]
    · rw [if_neg hc]
      have hne : i ≠ j := fun e => by
        subst e
        refine hc ?_
        rw [h3]
        unfold tagOf at ht
        unfold sameTag
        simp only [Prod.mk.injEq] at ht
        simp [ht.1, ht.2]
      exact putScan_some h hx ht m (i + 1) (by omega) ⟨j, by omega, h2, h3⟩
theorem putScan_there {L : List Kep} (h : SortedK L) {key : ByteArray} {v x : Ver} (hx : x ∈ getL L key) (ht : tagOf x = tagOf v) : putScan L key v 0 L.length = if x = v then -1 else 6 := by
  obtain ⟨j, hj⟩ := List.getElem?_of_mem (mem_getL.1 hx)
  have hl : j < L.length := (List.getElem?_eq_some_iff.1 hj).1
  refine putScan_some h hx ht L.length 0 (by omega) ⟨j, Nat.zero_le _, hl, ?_⟩
  have := kepAt_get hl
  rw [hj] at this
  exact (Option.some.inj this).symm
/-! what is trimmed -/
theorem trimGo_zero (key : ByteArray) : ∀ L : List Kep, trimGo key 0 L = L
  | [] => rfl
  | x :: L => by
    show (if _ then _ else _) = _
    rw [if_neg (by simp), trimGo_zero key L]
theorem trimGo_sub (key : ByteArray) : ∀ (L : List Kep) (n : Nat), (trimGo key n L).Sublist L
  | [], _ => List.Sublist.refl _
  | x :: L, n => by
    show (if _ then _ else _ : List Kep).Sublist _
    split
    · exact (trimGo_sub key L (n - 1)).cons _
    · exact (trimGo_sub key L n).cons_cons _
theorem getL_cons (x : Kep) (L : List Kep) (key : ByteArray) : getL (x :: L) key = getL [x] key ++ getL L key := getL_append [x] L key
theorem getL_trim (key : ByteArray) : ∀ (L : List Kep) (n : Nat), getL (trimGo key n L) key = (getL L key).drop n
  | [], n => by show getL [] key = _; simp [getL]
  | x :: L, n => by
    show getL (if _ then _ else _) key = _
    split
    · rename_i hc
      rw [getL_trim key L (n - 1), getL_cons x L, getL_one_yes hc.1]
      obtain ⟨m, rfl⟩ : ∃ m, n = m + 1 := ⟨n - 1, by omega⟩
      rfl
    · rename_i hc
      rw [getL_cons x L, getL_cons x (trimGo key n L), getL_trim key L n]
      by_cases hx : x.1 = key
      · have : n = 0 := by
          refine Classical.byContradiction fun h => hc ⟨hx, by omega⟩
        subst this
        simp
      · rw [getL_one_no hx]; rfl
theorem getL_trim_other {key k : ByteArray} (hk : k ≠ key) : ∀ (L : List Kep) (n : Nat), getL (trimGo key n L) k = getL L k
  | [], _ => rfl
  | x :: L, n => by
    show getL (if _ then _ else _) k = _
    split
    · rename_i hc
      rw [getL_trim_other hk L (n - 1), getL_cons x L, getL_one_no (by rw [hc.1]; exact Ne.symm hk)]
      rfl
    · rw [getL_cons x L, getL_cons x (trimGo key n L), getL_trim_other hk L n]
theorem trimL_sorted {L : List Kep} (h : SortedK L) (key : ByteArray) (n : Nat) : SortedK (trimGo key n L) := List.Pairwise.sublist (trimGo_sub key L n) h
section
/-- In the world w the hold at block h, in the blocks of S, holds L, and is sealed or not: its map is m, which tells D; a key's versions are the row 'row x', in block blk x. -/
structure HdAt (w : World) (h : Nat) (S : Nat → Prop) (L : List Kep) (s : Bool) (m : Option Nat) (D : DataW Value) (row : ByteArray → Value) (blk : ByteArray → Nat) : Prop where
  sorted : SortedK L
  few : L.length ≤ 60
  fits : ∀ x ∈ L, isN x.1 = true ∧ verOk x.2 = true
  inS : ∀ k, S k → k < w.heap.size
  self : S h
  ptr : w.cell? ⟨h, 0, none⟩ = some (.map m)
  shut : w.cell? ⟨h, 1, none⟩ = some (.bool s)
  free0 : w.frozen? ⟨h, 0, none⟩ = false
  free1 : w.frozen? ⟨h, 1, none⟩ = false
  nothing : m = none → L = []
  mapS : ∀ b, m = some b → S b ∧ b ≠ h ∧ (∃ n, OwnM w b n D) ∧ (∀ x, x.size ≤ maxLen → Maps.has D (litK x) = decide (getL L x ≠ [])) ∧ ∀ x, getL L x ≠ [] → ∀ z, D.atKey (litK x) z = .held (row x)
  own : ∀ x, OwnR verE 49 w 0 (row x) (getL L x)
  nilrow : ∀ x, getL L x = [] → row x = .slice none 0 0
  inB : ∀ x, getL L x ≠ [] → (row x).ownBlock = some (blk x) ∧ S (blk x) ∧ blk x ≠ h ∧ ∀ b, m = some b → blk x ≠ b
  apart : ∀ x y, getL L x ≠ [] → getL L y ≠ [] → x ≠ y → blk x ≠ blk y
/-- The hold at block h, in the blocks of S, holds L. -/
def HdOf (w : World) (h : Nat) (S : Nat → Prop) (L : List Kep) (s : Bool) : Prop := ∃ m D row blk, HdAt w h S L s m D row blk
variable {w w' : World} {h : Nat} {S : Nat → Prop} {L : List Kep} {s : Bool} {m : Option Nat} {D : DataW Value} {row : ByteArray → Value} {blk : ByteArray → Nat}
theorem HdAt.rowS (hd : HdAt w h S L s m D row blk) {x : ByteArray} {k : Nat} (hk : (row x).ownBlock = some k) : S k ∧ getL L x ≠ [] ∧ k = blk x := by
  by_cases hx : getL L x = []
  · rw [hd.nilrow x hx] at hk; cases hk
  · obtain ⟨h1, h2, _⟩ := hd.inB x hx
    rw [h1] at hk
    cases hk
    exact ⟨h2, hx, rfl⟩
theorem HdAt.keep (hd : HdAt w h S L s m D row blk) (hs : w.heap.size ≤ w'.heap.size) (hb : ∀ k, S k → w'.heap[k]? = w.heap[k]?) : HdAt w' h S L s m D row blk := by
  have hh := hb h hd.self
  refine ⟨hd.sorted, hd.few, hd.fits, fun k hk => Nat.lt_of_lt_of_le (hd.inS k hk) hs, hd.self, (cell_same hh 0).1.trans hd.ptr, (cell_same hh 1).1.trans hd.shut, (cell_same hh 0).2.trans hd.free0, (cell_same hh 1).2.trans hd.free1, hd.nothing, fun b hm => ?_, fun x => (hd.own x).same (fun k hk => hb k (hd.rowS hk).1), hd.nilrow, hd.inB, hd.apart⟩
  obtain ⟨h1, h2, ⟨n, h3⟩, h4⟩ := hd.mapS b hm
  exact ⟨h1, h2, ⟨n, h3.same (hb b h1)⟩, h4⟩
theorem HdAt.below (hd : HdAt w h S L s m D row blk) (hb : Below w.heap.size w w') : HdAt w' h S L s m D row blk := hd.keep hb.size (fun k hk => hb.block k (hd.inS k hk))
/-- Its map has no more entries than there are versions. -/
theorem HdAt.size (hd : HdAt w h S L s m D row blk) {b : Nat} (hm : m = some b) : Maps.size D ≤ 60 := by
  obtain ⟨_, _, ⟨n, h3⟩, h4, _⟩ := hd.mapS b hm
  obtain ⟨es, rfl, hp, hk⟩ := h3.keys
  rw [Maps.size_eq]
  refine Nat.le_trans ?_ (Nat.le_trans (keysL_le L) hd.few)
  have hn : (es.map Prod.fst).Nodup := by unfold List.Nodup; rw [List.pairwise_map]; exact hp
  have := length_le_sub (l := es.map Prod.fst) (m := (keysL L).map litK) hn (fun l hl => by
    obtain ⟨p, hp', rfl⟩ := List.mem_map.1 hl
    obtain ⟨x, hx, e⟩ := hk p hp'
    have hh : Maps.has (.map es) (litK x) = true := List.any_eq_true.2 ⟨p, hp', by rw [e]; exact sameKey_litK x⟩
    rw [h4 x hx] at hh
    rw [e]
    exact List.mem_map.2 ⟨x, ((keysOk L hd.sorted).mem x).2 (by simpa using hh), rfl⟩)
  simpa using this
set_option maxRecDepth 10000 in
/-- What the map tells of a key. -/
theorem HdAt.look (hd : HdAt w h S L s m D row blk) {x : ByteArray} (hx : x.size ≤ maxLen) : (Instr.lookup 37 (.map m) (.string x) false).run Tryz.prog w = .ok (row x) w := by
  have hz : (zeroValue 57).run Tryz.prog w = .ok (.slice none 0 0) w := by kernel_rfl
  cases m with
  | none =>
    have h0 := hd.nothing rfl
    have := Maps.look_nil (w := w) false keyedK Tryz.underlying37 hz (keyOfK hx)
    rw [this, hd.nilrow x (by rw [h0]; rfl)]
    rfl
  | some b =>
    obtain ⟨_, _, ⟨n, h3⟩, h4, h5⟩ := hd.mapS b rfl
    obtain ⟨v, ps, hrun, hR⟩ := World.ownsMap.lookup h3 keyedK Tryz.underlying37 hz (zd := .held (.slice none 0 0)) (zp := []) rfl (keyOfK hx)
    rw [hrun]
    have e : DataW.held v = D.atKey (litK x) (.held (.slice none 0 0)) := congrArg Prod.fst (Option.some.inj hR)
    by_cases hg : getL L x = []
    · rw [Maps.atKey_of_not_has (by rw [h4 x hx]; simp [hg])] at e
      injection e with e
      rw [e, hd.nilrow x hg]
    · rw [h5 x hg] at e
      injection e with e
      rw [e]
/-- A key's row has its versions. -/
theorem HdAt.form (hd : HdAt w h S L s m D row blk) (x : ByteArray) : ∃ p c, row x = .slice p (getL L x).length c ∧ Rec verE w p (getL L x) ∧ (getL L x).length ≤ c ∧ (p = none → getL L x = [] ∧ c = 0) ∧ ∀ b o, p = some ⟨b, o, none⟩ → b < w.heap.size := by
  obtain ⟨p, c, h1, h2, h3, h4, h5⟩ := (hd.own x).form
  exact ⟨p, c, h1, h2, h3, h4, fun b o e => (h5 b o e).2⟩
theorem HdAt.good (hd : HdAt w h S L s m D row blk) : SortedK L ∧ L.length ≤ 60 ∧ ∀ x ∈ L, isN x.1 = true ∧ verOk x.2 = true := ⟨hd.sorted, hd.few, hd.fits⟩
/-- A hold's zero value. -/
theorem hd_zero (w : World) : HdOf (w.alloc (.cells #[.map none, .bool false] 39)) w.heap.size (fun k => k = w.heap.size) [] false := by
  refine ⟨none, .nil, fun _ => .slice none 0 0, fun _ => 0, List.Pairwise.nil, by simp, (fun _ hx => by cases hx), (fun k hk => by subst hk; simp), rfl, by simp, by simp, by simp, by simp, fun _ => rfl, (fun b hm => by cases hm), fun x => OwnR.nil _ _ _, fun _ _ => rfl, fun x hx => absurd rfl hx, fun x _ hx _ _ => absurd rfl hx⟩
theorem HdOf.keep (hd : HdOf w h S L s) (hs : w.heap.size ≤ w'.heap.size) (hb : ∀ k, S k → w'.heap[k]? = w.heap[k]?) : HdOf w' h S L s := by
  obtain ⟨m, D, row, blk, hd⟩ := hd
  exact ⟨m, D, row, blk, hd.keep hs hb⟩
theorem HdOf.below (hd : HdOf w h S L s) (hb : Below w.heap.size w w') : HdOf w' h S L s := by
  obtain ⟨m, D, row, blk, hd⟩ := hd
  exact ⟨m, D, row, blk, hd.below hb⟩
end
section
variable {h : Nat} {S : Nat → Prop} {L : List Kep} {s : Bool} {m : Option Nat} {D : DataW Value} {row : ByteArray → Value} {blk : ByteArray → Nat}
set_option maxRecDepth 10000 in
theorem all_any {w : World} (hd : HdAt w h S L s m D row blk) : Calls Tryz.prog 25 #[.pointer (some ⟨h, 0, none⟩)] w fun e w' => e = .returned (.map m) ∧ w' = w := by
  have q0 := hd.ptr
  clear hd
  go_enter Tryz.func25, Tryz.ntmps25
  go_wp2
  go_ret
  exact ⟨rfl, rfl⟩
set_option maxRecDepth 10000 in
theorem of_any {w : World} (hd : HdAt w h S L s m D row blk) (key : ByteArray) (hk : key.size ≤ maxLen) : Calls Tryz.prog 38 #[.pointer (some ⟨h, 0, none⟩), .string key] w fun e w' => e = .returned (row key) ∧ w' = w := by
  have hlook := hd.look hk
  have HA : Hid (Calls Tryz.prog 25 #[.pointer (some ⟨h, 0, none⟩)] w fun e w' => e = .returned (.map m) ∧ w' = w) := all_any hd
  clear hd
  generalize row key = r at *
  go_enter Tryz.func38, Tryz.ntmps38
  go_wp2_with fail
  refine HA.out.mono ?_
  rintro e w1 ⟨rfl, hw1⟩
  rw [hw1]
  clear hw1 w1 HA
  go_wp2
  go_ret
  exact ⟨rfl, rfl⟩
set_option maxRecDepth 10000 in
theorem sealed_any {w : World} (hd : HdAt w h S L s m D row blk) : Calls Tryz.prog 12 #[.pointer (some ⟨h, 0, none⟩)] w fun e w' => e = .returned (.bool s) ∧ w' = w := by
  have q0 := hd.shut
  clear hd
  go_enter Tryz.func12, Tryz.ntmps12
  go_wp2
  go_ret
  exact ⟨rfl, rfl⟩
set_option maxRecDepth 10000 in
set_option maxHeartbeats 1000000 in
theorem copied_any (v : Ver) (w : World) (ht : v.text.size ≤ 1000000) : Calls Tryz.prog 42 #[.agg #[.int .i64 v.n, .int .i64 v.who, .int .i64 v.size, .int .i64 v.at_, .string v.text]] w fun e w' => e = .returned (.agg #[.int .i64 v.n, .int .i64 v.who, .int .i64 v.size, .int .i64 v.at_, .string v.text]) ∧ Below w.heap.size w w' := by
  have HC : Hid (∀ W, Calls Tryz.prog 44 #[.string v.text] W fun e w' => e = .returned (.string v.text) ∧ Below W.heap.size W w') := fun W => sclone_any v.text W (by omega)
  obtain ⟨n, who, size, at_, text⟩ := v
  obtain ⟨w2, hw2⟩ : ∃ w2, w2 = (w.alloc (.cells #[.int .i64 n, .int .i64 who, .int .i64 size, .int .i64 at_, .string text] 49)).alloc (.cells #[.int .i64 0, .int .i64 0, .int .i64 0, .int .i64 0, .string ⟨#[]⟩] 49) := ⟨_, rfl⟩
  have HW2 : Hid (w2 = (w.alloc (.cells #[.int .i64 n, .int .i64 who, .int .i64 size, .int .i64 at_, .string text] 49)).alloc (.cells #[.int .i64 0, .int .i64 0, .int .i64 0, .int .i64 0, .string ⟨#[]⟩] 49)) := hw2
  have HB2 : Hid (Below w.heap.size w w2) := by rw [hw2]; exact ((Below.refl _ _).alloc (Nat.le_refl _) _).alloc (by simp) _
  have HBK : Hid (w2.heap[w.heap.size]? = some (.cells #[.int .i64 n, .int .i64 who, .int .i64 size, .int .i64 at_, .string text] 49 (0, 0)) ∧ w2.heap[w.heap.size + 1]? = some (.cells #[.int .i64 0, .int .i64 0, .int .i64 0, .int .i64 0, .string ⟨#[]⟩] 49 (0, 0))) := by
    rw [hw2]
    constructor
    · rw [heap_alloc_old _ _ (by simp), heap_alloc_new]
    · have e : w.heap.size + 1 = (w.alloc (.cells #[.int .i64 n, .int .i64 who, .int .i64 size, .int .i64 at_, .string text] 49)).heap.size := by simp
      rw [e, heap_alloc_new]
  have hs2 : w.heap.size + 1 < w2.heap.size := by rw [hw2]; simp
  have k4 : w2.cell? ⟨w.heap.size, 4, none⟩ = some (.string text) := by simp [World.cell?, HBK.out.1]
  clear hw2 ht
  go_enter Tryz.func42, Tryz.ntmps42
  go_wp2_with fail
  rw [← HW2.out]
  clear HW2
  refine (HC.out _).mono ?_
  rintro e w3 ⟨rfl, hb3⟩
  have HB3 : Hid (Below w.heap.size w w3) := HB2.out.trans (hb3.mono HB2.out.size)
  have e0 : w3.heap[w.heap.size]? = some (.cells #[.int .i64 n, .int .i64 who, .int .i64 size, .int .i64 at_, .string text] 49 (0, 0)) := (hb3.block _ (by omega)).trans HBK.out.1
  have e1 : w3.heap[w.heap.size + 1]? = some (.cells #[.int .i64 0, .int .i64 0, .int .i64 0, .int .i64 0, .string ⟨#[]⟩] 49 (0, 0)) := (hb3.block _ (by omega)).trans HBK.out.2
  have c0 : w3.cell? ⟨w.heap.size, 0, none⟩ = some (.int .i64 n) := by simp [World.cell?, e0]
  have c1 : w3.cell? ⟨w.heap.size, 1, none⟩ = some (.int .i64 who) := by simp [World.cell?, e0]
  have c2 : w3.cell? ⟨w.heap.size, 2, none⟩ = some (.int .i64 size) := by simp [World.cell?, e0]
  have c3 : w3.cell? ⟨w.heap.size, 3, none⟩ = some (.int .i64 at_) := by simp [World.cell?, e0]
  have c4 : w3.cell? ⟨w.heap.size, 4, none⟩ = some (.string text) := by simp [World.cell?, e0]
  have f4 : ∀ o, w3.frozen? ⟨w.heap.size, o, none⟩ = false := fun o => by simp [World.frozen?, e0]
  have d0 : w3.cell? ⟨w.heap.size + 1, 0, none⟩ = some (.int .i64 0) := by simp [World.cell?, e1]
  have d1 : w3.cell? ⟨w.heap.size + 1, 1, none⟩ = some (.int .i64 0) := by simp [World.cell?, e1]
  have d2 : w3.cell? ⟨w.heap.size + 1, 2, none⟩ = some (.int .i64 0) := by simp [World.cell?, e1]
  have d3 : w3.cell? ⟨w.heap.size + 1, 3, none⟩ = some (.int .i64 0) := by simp [World.cell?, e1]
  have d4 : w3.cell? ⟨w.heap.size + 1, 4, none⟩ = some (.string ⟨#[]⟩) := by simp [World.cell?, e1]
  have g4 : ∀ o, w3.frozen? ⟨w.heap.size + 1, o, none⟩ = false := fun o => by simp [World.frozen?, e1]
  clear hb3 e0 e1 HBK HB2 HC
  go_wp2
  refine bodyPost_ret (v := .agg #[.int .i64 n, .int .i64 who, .int .i64 size, .int .i64 at_, .string text]) (by simp [results, Tryz.results42, go_sem, d0, d1, d2, d3, d4]) rfl ⟨rfl, ?_⟩
  exact (((((HB3.out.setCell (p := ⟨w.heap.size, 4, none⟩) (Nat.le_refl _) _).setCell (p := ⟨w.heap.size + 1, 0, none⟩) (Nat.le_succ _) _).setCell (p := ⟨w.heap.size + 1, 1, none⟩) (Nat.le_succ _) _).setCell (p := ⟨w.heap.size + 1, 2, none⟩) (Nat.le_succ _) _).setCell (p := ⟨w.heap.size + 1, 3, none⟩) (Nat.le_succ _) _).setCell (p := ⟨w.heap.size + 1, 4, none⟩) (Nat.le_succ _) _
/-- The four that inBounds asks, one behind the other. -/
theorem verOk_four (v : Ver) : verOk v = (tagOk v.n v.who && (decide (0 ≤ v.size ∧ v.size ≤ 1000) && (decide (0 ≤ v.at_ ∧ v.at_ ≤ 11) && decide (0 ≤ (v.text.size : Int) ∧ (v.text.size : Int) ≤ 1000)))) := by
  unfold verOk tagB tagOk
  rw [Bool.eq_iff_iff]
  simp only [Bool.and_eq_true, decide_eq_true_eq]
  omega
set_option maxRecDepth 10000 in
set_option maxHeartbeats 2000000 in
theorem inBounds_any (v : Ver) (w : World) (ht : v.text.size ≤ maxLen) : Calls Tryz.prog 37 #[.agg #[.int .i64 v.n, .int .i64 v.who, .int .i64 v.size, .int .i64 v.at_, .string v.text]] w fun e w' => e = .returned (.bool (verOk v)) ∧ Below w.heap.size w w' := by
  rw [verOk_four]
  obtain ⟨n, who, size, at_, text⟩ := v
  simp only
  have H1 : Hid (∀ W, Calls Tryz.prog 62 #[.agg #[.int .i64 n, .int .i64 who]] W fun e w' => e = .returned (.bool (tagOk n who)) ∧ Below W.heap.size W w') := fun W => istag_any n who W
  have H3 : Hid (∀ W, Calls Tryz.prog 63 #[.int .i64 size, .int .i64 1000] W fun e w' => e = .returned (.bool (decide (0 ≤ size ∧ size ≤ 1000))) ∧ w' = W) := fun W => hwithin_any size _ W
  have H4 : Hid (∀ W, Calls Tryz.prog 63 #[.int .i64 at_, .int .i64 11] W fun e w' => e = .returned (.bool (decide (0 ≤ at_ ∧ at_ ≤ 11))) ∧ w' = W) := fun W => hwithin_any at_ _ W
  have H5 : Hid (∀ W, Calls Tryz.prog 63 #[.int .i64 (text.size : Int), .int .i64 1000] W fun e w' => e = .returned (.bool (decide (0 ≤ (text.size : Int) ∧ (text.size : Int) ≤ 1000))) ∧ w' = W) := fun W => hwithin_any (text.size : Int) _ W
  generalize tagOk n who = r1 at *
  generalize decide (0 ≤ size ∧ size ≤ 1000) = r3 at *
  generalize decide (0 ≤ at_ ∧ at_ ≤ 11) = r4 at *
  generalize decide (0 ≤ (text.size : Int) ∧ (text.size : Int) ≤ 1000) = r5 at *
  obtain ⟨w2, hw2⟩ : ∃ w2, w2 = w.alloc (.cells #[.int .i64 n, .int .i64 who, .int .i64 size, .int .i64 at_, .string text] 49) := ⟨_, rfl⟩
  have HW2 : Hid (w2 = w.alloc (.cells #[.int .i64 n, .int .i64 who, .int .i64 size, .int .i64 at_, .string text] 49)) := hw2
  have HB2 : Hid (Below w.heap.size w w2) := by rw [hw2]; exact (Below.refl _ _).alloc (Nat.le_refl _) _
  have hlt : w.heap.size < w2.heap.size := by rw [hw2]; simp
  have c0 : w2.cell? ⟨w.heap.size, 0, none⟩ = some (.int .i64 n) := by rw [hw2]; simp
  have c1 : w2.cell? ⟨w.heap.size, 1, none⟩ = some (.int .i64 who) := by rw [hw2]; simp
  have c2 : w2.cell? ⟨w.heap.size, 2, none⟩ = some (.int .i64 size) := by rw [hw2]; simp
  have c3 : w2.cell? ⟨w.heap.size, 3, none⟩ = some (.int .i64 at_) := by rw [hw2]; simp
  have c4 : w2.cell? ⟨w.heap.size, 4, none⟩ = some (.string text) := by rw [hw2]; simp
  have HC : Hid (∀ W, Below w2.heap.size w2 W → W.cell? ⟨w.heap.size, 2, none⟩ = some (.int .i64 size) ∧ W.cell? ⟨w.heap.size, 3, none⟩ = some (.int .i64 at_) ∧ W.cell? ⟨w.heap.size, 4, none⟩ = some (.string text)) := fun W hW => ⟨(hW.cell (p := ⟨w.heap.size, 2, none⟩) hlt).trans c2, (hW.cell (p := ⟨w.heap.size, 3, none⟩) hlt).trans c3, (hW.cell (p := ⟨w.heap.size, 4, none⟩) hlt).trans c4⟩
  clear hw2 ht hlt
  go_enter Tryz.func37, Tryz.ntmps37
  go_wp2_with (first | rw [← HW2.out])
  refine (H1.out _).mono ?_
  rintro e w3 ⟨rfl, hb3⟩
  obtain ⟨d2, d3, d4⟩ := HC.out w3 hb3
  have HB3 : Hid (Below w.heap.size w w3) := HB2.out.trans (hb3.mono HB2.out.size)
  clear HW2 c0 c1 c2 c3 c4 HC hb3 H1
  cases r1 with
  | false =>
    go_wp2
    go_ret
    exact ⟨rfl, HB3.out⟩
  | true =>
    go_wp2_with fail
    refine (H3.out _).mono ?_
    rintro e w4 ⟨rfl, rfl⟩
    cases r3 with
    | false =>
      go_wp2
      go_ret
      exact ⟨rfl, HB3.out⟩
    | true =>
      go_wp2_with fail
      refine (H4.out _).mono ?_
      rintro e w4 ⟨rfl, rfl⟩
      cases r4 with
      | false =>
        go_wp2
        go_ret
        exact ⟨rfl, HB3.out⟩
      | true =>
        go_wp2_with fail
        refine (H5.out _).mono ?_
        rintro e w4 ⟨rfl, rfl⟩
        go_wp2
        go_ret
        exact ⟨by cases r5 <;> rfl, HB3.out⟩
end
section
variable {h : Nat} {S : Nat → Prop} {L : List Kep} {s : Bool} {m : Option Nat} {D : DataW Value} {row : ByteArray → Value} {blk : ByteArray → Nat}
set_option maxRecDepth 10000 in
theorem seal_set {w : World} (hd : HdAt w h S L s m D row blk) : Calls Tryz.prog 29 #[.pointer (some ⟨h, 0, none⟩)] w fun e w' => e = .returned (.tuple #[]) ∧ w' = w.setCell ⟨h, 1, none⟩ (.bool true) := by
  have q1 := hd.shut
  have f1 := hd.free1
  clear hd
  go_enter Tryz.func29, Tryz.ntmps29
  go_wp2
  go_end0
  exact ⟨rfl, rfl⟩
theorem seals_any {w : World} (hd : HdOf w h S L s) : Calls Tryz.prog 29 #[.pointer (some ⟨h, 0, none⟩)] w fun e w' => e = .returned (.tuple #[]) ∧ ∃ S', HdOf w' h S' L true ∧ Upd S S' w w' := by
  obtain ⟨m, D, row, blk, hd⟩ := hd
  refine (seal_set hd).mono fun e w' hp => ?_
  obtain ⟨he, rfl⟩ := hp
  have hblk : ∀ k, k ≠ h → (w.setCell ⟨h, 1, none⟩ (.bool true)).heap[k]? = w.heap[k]? := fun k hk => Deep.blk_setCell_other _ _ _ _ hk
  refine ⟨he, S, ⟨m, D, row, blk, hd.sorted, hd.few, hd.fits, fun k hk => by simpa using hd.inS k hk, hd.self, ?_, World.cell?_setCell_same _ _ _ hd.shut, by rw [World.frozen?_setCell]; exact hd.free0, by rw [World.frozen?_setCell]; exact hd.free1, hd.nothing, fun b hm => ?_, fun x => (hd.own x).same (fun k hk => hblk k ?_), hd.nilrow, hd.inB, hd.apart⟩, ⟨rfl, rfl, rfl, by simp, fun k _ hn => hblk k (fun e => hn (e ▸ hd.self)), fun k hk => Or.inl hk⟩⟩
  · rw [World.cell?_setCell_other _ _ _ _ (fun e => by have h2 : (1 : Nat) = 0 := congrArg Addr.off e; omega)]
    exact hd.ptr
  · obtain ⟨h1, h2, ⟨n, h3⟩, h4⟩ := hd.mapS b hm
    exact ⟨h1, h2, ⟨n, h3.same (hblk b h2)⟩, h4⟩
  · obtain ⟨_, h2, h3⟩ := hd.rowS hk
    rw [h3]
    exact (hd.inB x h2).2.2.1
end
section
variable {h : Nat} {S : Nat → Prop} {L : List Kep} {s : Bool} {m : Option Nat} {D : DataW Value} {row : ByteArray → Value} {blk : ByteArray → Nat}
theorem take_succ_ver {l : List Ver} {i : Nat} (hi : i < l.length) : l.take (i + 1) = l.take i ++ [verAt l i] := by
  rw [List.take_add_one, verAt_get hi]
  rfl
/-- A key's versions fit. -/
theorem getL_fits {L : List Kep} (hf : ∀ x ∈ L, isN x.1 = true ∧ verOk x.2 = true) {key : ByteArray} {i : Nat} (hi : i < (getL L key).length) : verOk (verAt (getL L key) i) = true := by
  have := List.mem_of_getElem? (verAt_get hi)
  exact (hf _ (mem_getL.1 this)).2
theorem verOk_text {v : Ver} (h : verOk v = true) : v.text.size ≤ 1000 := by
  unfold verOk at h
  simp only [Bool.and_eq_true, decide_eq_true_eq] at h
  exact h.2.2.2.2.2
set_option maxRecDepth 10000 in
set_option maxHeartbeats 1600000 in
theorem getO_any {w : World} (hd : HdAt w h S L s m D row blk) (key : ByteArray) (hk : key.size ≤ maxLen) :
    Calls Tryz.prog 17 #[.pointer (some ⟨h, 0, none⟩), .string key] w fun e w' => (∃ v, e = .returned v ∧ OwnR verE 49 w' w.heap.size v (getL L key)) ∧ Below w.heap.size w w' := by
  have HOF : Hid (Calls Tryz.prog 38 #[.pointer (some ⟨h, 0, none⟩), .string key] w fun e w' => e = .returned (row key) ∧ w' = w) := of_any hd key hk
  obtain ⟨p, c, hrow, hrec, hlc, hpn, hpb⟩ := hd.form key
  have HREC : Hid (Rec verE w p (getL L key)) := hrec
  have HTX : Hid (∀ i, i < (getL L key).length → (verAt (getL L key) i).text.size ≤ 1000000) := fun i hi => by have := verOk_text (getL_fits hd.fits hi); omega
  have hl : (getL L key).length ≤ 60 := Nat.le_trans (getL_le _ _) hd.few
  rw [hrow] at HOF
  clear hd hrow hrec hpn hpb
  generalize getL L key = l at *
  go_enter Tryz.func17, Tryz.ntmps17
  go_wp2_with fail
  refine HOF.out.mono ?_
  rintro e w1 ⟨rfl, hw1⟩
  rw [hw1]
  clear hw1 w1 HOF
  go_wp2
  go_loopw [5, 12] (fun v x wq => ∃ i : Nat, i ≤ l.length ∧ x = .int .i64 i ∧ OwnR verE 49 wq w.heap.size v (l.take i) ∧ Below w.heap.size w wq) (fun _ x _ => l.length - (intOf x).toNat)
  case atStart => exact ⟨0, Nat.zero_le _, rfl, OwnR.nil _ _ _, Below.refl _ _⟩
  case round =>
    obtain ⟨i, hi, rfl, hO, hB⟩ := hrel
    obtain ⟨w1, rfl⟩ : ∃ w1, w1 = wr := ⟨_, rfl⟩
    obtain ⟨v, rfl⟩ : ∃ v, v = u5 := ⟨_, rfl⟩
    have HO : Hid (OwnR verE 49 w1 w.heap.size v (l.take i)) := hO
    have HB : Hid (Below w.heap.size w w1) := hB
    have hz1 : w.heap.size ≤ w1.heap.size := hB.size
    clear hO hB
    by_cases hil : i < l.length
    · obtain ⟨b, o, hpp, hblt, c0, c1, c2, c3, c4⟩ := ver_cells (HREC.out.below HB.out) hil
      subst hpp
      have HNX : Hid (l.take (i + 1) = l.take i ++ [verAt l i]) := take_succ_ver hil
      have HCP : Hid (∀ W, Calls Tryz.prog 42 #[.agg #[.int .i64 (verAt l i).n, .int .i64 (verAt l i).who, .int .i64 (verAt l i).size, .int .i64 (verAt l i).at_, .string (verAt l i).text]] W fun e w' => e = .returned (.agg #[.int .i64 (verAt l i).n, .int .i64 (verAt l i).who, .int .i64 (verAt l i).size, .int .i64 (verAt l i).at_, .string (verAt l i).text]) ∧ Below W.heap.size W w') := fun W => copied_any (verAt l i) W (HTX.out i hil)
      have hgl : (l.take i).length ≤ 60 := by rw [List.length_take]; omega
      clear HTX
      generalize verAt l i = x at *
      obtain ⟨xn, xw, xs, xa, xt⟩ := x
      generalize l.take i = gs at *
      have HBW : Hid (Below w1.heap.size w1 (w1.alloc (.cells #[.int .i64 xn, .int .i64 xw, .int .i64 xs, .int .i64 xa, .string xt] 49))) := (Below.refl _ _).alloc (Nat.le_refl _) _
      go_wp2_with fail
      refine (HCP.out _).mono ?_
      rintro e w3 ⟨rfl, hb3⟩
      have hb13 : Below w1.heap.size w1 w3 := HBW.out.trans (hb3.mono HBW.out.size)
      have HO2 : Hid (OwnR verE 49 (w3.alloc (.cells #[.int .i64 xn, .int .i64 xw, .int .i64 xs, .int .i64 xa, .string xt] 49)) w.heap.size v gs) := (HO.out.kept hb13).kept ((Below.refl _ _).alloc (Nat.le_refl _) _)
      have HB3 : Hid (Below w.heap.size w w3) := HB.out.trans (hb13.mono HB.out.size)
      have HNW : Hid (∀ j u, (verE.enc ⟨xn, xw, xs, xa, xt⟩)[j]? = some u → (w3.alloc (.cells #[.int .i64 xn, .int .i64 xw, .int .i64 xs, .int .i64 xa, .string xt] 49)).cell? ⟨w3.heap.size, 0 + j, none⟩ = some u) := fun j u hj => by
        rw [Nat.zero_add, World.cell?_alloc_at _ _ _ _ rfl]
        match j, hj with
        | 0, hj => exact hj
        | 1, hj => exact hj
        | 2, hj => exact hj
        | 3, hj => exact hj
        | 4, hj => exact hj
      have HB2 : Hid (Below w.heap.size w (w3.alloc (.cells #[.int .i64 xn, .int .i64 xw, .int .i64 xs, .int .i64 xa, .string xt] 49))) := HB3.out.alloc HB3.out.size _
      clear hb3 hb13 HBW HCP c0 c1 c2 c3 c4
      go_wp2_with (first | (at_builtin; refine wpList_append_rec rfl (.tmp 16) (.tmp 19) 57 49 rfl (.agg #[.int .i64 0, .int .i64 0, .int .i64 0, .int .i64 0, .string ⟨#[]⟩]) 48 Tryz.underlying57 verinfo rfl w.heap.size v gs rfl HO2.out w3.heap.size 0 1 ⟨xn, xw, xs, xa, xt⟩ rfl HNW.out (by unfold maxLen; omega) (by omega) HB2.out.size (by simp) ?_; intro v4 w4 hO4 hb4))
      have HO4 : Hid (OwnR verE 49 w4 w.heap.size v4 (gs ++ [⟨xn, xw, xs, xa, xt⟩])) := hO4
      have HB4 : Hid (Below w.heap.size w w4) := HB2.out.trans hb4
      clear hO4 hb4
      go_wp2
      go_roundw
      case rel => exact ⟨i + 1, by omega, by go_num, by rw [HNX.out]; exact HO4.out, HB4.out⟩
      case measure => simp [intOf]; omega
    · have hie : i = l.length := by omega
      subst hie
      have HE : Hid (l.take l.length = l) := List.take_length
      go_wp2
      go_ret
      have hO := HO.out
      rw [HE.out] at hO
      exact ⟨⟨v, rfl, hO⟩, HB.out⟩
theorem get_any {w : World} (hd : HdAt w h S L s m D row blk) (key : ByteArray) (hk : key.size ≤ maxLen) :
    Calls Tryz.prog 17 #[.pointer (some ⟨h, 0, none⟩), .string key] w fun e w' => (∃ p c, e = .returned (.slice p (getL L key).length c) ∧ Rec verE w' p (getL L key)) ∧ Below w.heap.size w w' := by
  refine (getO_any hd key hk).mono fun e w' hq => ?_
  obtain ⟨⟨v, e1, e2⟩, e3⟩ := hq
  obtain ⟨p, c, hv, hr, _⟩ := e2.form
  exact ⟨⟨p, c, by rw [e1, hv], hr⟩, e3⟩
end
set_option maxRecDepth 10000 in
set_option maxHeartbeats 1600000 in
theorem set_some (h b n : Nat) (D : DataW Value) (key : ByteArray) (p : Option Addr) (k c : Nat) (w : World) (hk : key.size ≤ 1000000) (hk0 : 0 < k) (hk1 : k ≤ 1000) (q0 : w.cell? ⟨h, 0, none⟩ = some (.map (some b))) (hown : OwnM w b n D) (hn : n < maxLen) :
    Calls Tryz.prog 40 #[.pointer (some ⟨h, 0, none⟩), .string key, .slice p k c] w fun e w' => e = .returned (.tuple #[]) ∧ SetOk w w' b D key (.slice p k c) := by
  have hlt : h < w.heap.size := lt_of_cellH q0
  have HUP : Hid (∀ W, Below w.heap.size w W → ∃ w', (Instr.mapUpdate 37 (.map (some b)) (.string key) (.slice p k c)).run Tryz.prog W = .ok () w' ∧ SetOk w w' b D key (.slice p k c)) := fun W hW => set_step hown hn (by unfold maxLen; omega) hW
  have HCL : Hid (∀ W, Calls Tryz.prog 44 #[.string key] W fun e w' => e = .returned (.string key) ∧ Below W.heap.size W w') := fun W => sclone_any key W (by omega)
  have HQ : Hid (∀ W, Below w.heap.size w W → W.cell? ⟨h, 0, none⟩ = some (.map (some b))) := fun W hW => (hW.cell (p := ⟨h, 0, none⟩) hlt).trans q0
  have hz : ¬ ((k : Int) = 0) := by omega
  have hmn := map_not_nil b
  clear hown hn hk
  go_enter Tryz.func40, Tryz.ntmps40
  go_wp2
  go_region_with (go_at_call 44; refine (HCL.out _).mono ?_; rintro e w5 ⟨rfl, hb5⟩; have hb6 := below_drew' hb5; have q5 := HQ.out w5 hb6; obtain ⟨w9, hrun9, hset9⟩ := HUP.out w5 hb6; clear hb5 hb6)
  all_goals
    go_wp2
    go_end0
    first | exact ⟨rfl, hset9⟩ | exact ⟨rfl, by assumption⟩
set_option maxRecDepth 10000 in
set_option maxHeartbeats 1600000 in
/-- Where no map is there yet. -/
theorem set_none (h : Nat) (key : ByteArray) (p : Option Addr) (k c : Nat) (w : World) (hk : key.size ≤ 1000000) (hk0 : 0 < k) (hk1 : k ≤ 1000) (q0 : w.cell? ⟨h, 0, none⟩ = some (.map none)) (f0 : w.frozen? ⟨h, 0, none⟩ = false) :
    Calls Tryz.prog 40 #[.pointer (some ⟨h, 0, none⟩), .string key, .slice p k c] w fun e w' => e = .returned (.tuple #[]) ∧ SetOk ((w.setCell ⟨h, 0, none⟩ (.map (some w.heap.size))).alloc (.map #[] 0)) w' w.heap.size (.map []) key (.slice p k c) := by
  have hlt : h < w.heap.size := lt_of_cellH q0
  obtain ⟨W0, hW0⟩ : ∃ W0, W0 = (w.setCell ⟨h, 0, none⟩ (.map (some w.heap.size))).alloc (.map #[] 0) := ⟨_, rfl⟩
  have HW0 : Hid (W0 = (w.setCell ⟨h, 0, none⟩ (.map (some w.heap.size))).alloc (.map #[] 0)) := hW0
  have hsz : (w.setCell ⟨h, 0, none⟩ (.map (some w.heap.size))).heap.size = w.heap.size := by simp
  have hown : OwnM W0 w.heap.size 0 (.map []) := by
    have := World.ownsMap_made (w.setCell ⟨h, 0, none⟩ (.map (some w.heap.size))) Tryz.prog 9 anyR
    rw [hsz] at this
    rw [hW0]
    exact this
  have hq : W0.cell? ⟨h, 0, none⟩ = some (.map (some w.heap.size)) := by
    rw [hW0, ((Below.refl _ (w.setCell ⟨h, 0, none⟩ (.map (some w.heap.size)))).alloc (Nat.le_refl _) _).cell (p := ⟨h, 0, none⟩) (by rw [hsz]; exact hlt)]
    exact World.cell?_setCell_same _ _ _ q0
  have hlt0 : h < W0.heap.size := lt_of_cellH hq
  have HUP : Hid (∀ W, Below W0.heap.size W0 W → ∃ w', (Instr.mapUpdate 37 (.map (some w.heap.size)) (.string key) (.slice p k c)).run Tryz.prog W = .ok () w' ∧ SetOk W0 w' w.heap.size (.map []) key (.slice p k c)) := fun W hW => set_step hown (by unfold maxLen; omega) (by unfold maxLen; omega) hW
  have HCL : Hid (∀ W, Calls Tryz.prog 44 #[.string key] W fun e w' => e = .returned (.string key) ∧ Below W.heap.size W w') := fun W => sclone_any key W (by omega)
  have HQ : Hid (∀ W, Below W0.heap.size W0 W → W.cell? ⟨h, 0, none⟩ = some (.map (some w.heap.size))) := fun W hW => (hW.cell (p := ⟨h, 0, none⟩) hlt0).trans hq
  have hz : ¬ ((k : Int) = 0) := by omega
  have hmn := map_is_nil
  have hf1 : (w.alloc (.map #[] 0)).frozen? ⟨h, 0, none⟩ = false := by rw [((Below.refl _ w).alloc (Nat.le_refl _) _).frozen (p := ⟨h, 0, none⟩) hlt]; exact f0
  have hc1 : (w.alloc (.map #[] 0)).cell? ⟨h, 0, none⟩ = some (.map none) := by rw [((Below.refl _ w).alloc (Nat.le_refl _) _).cell (p := ⟨h, 0, none⟩) hlt]; exact q0
  have hmk : (Instr.makeMap 37 none).run Tryz.prog w = .ok (.map (some w.heap.size)) (w.alloc (.map #[] 0)) := by kernel_rfl
  rw [← hW0]
  clear hown hk hW0 hsz
  go_enter Tryz.func40, Tryz.ntmps40
  go_wp2
  rw [← HW0.out]
  clear HW0
  go_region_with (go_at_call 44; refine (HCL.out _).mono ?_; rintro e w5 ⟨rfl, hb5⟩; have hb6 := below_drew' hb5; have q5 := HQ.out w5 hb6; obtain ⟨w9, hrun9, hset9⟩ := HUP.out w5 hb6; clear hb5 hb6)
  all_goals
    go_wp2
    go_end0
    first | exact ⟨rfl, hset9⟩ | exact ⟨rfl, by assumption⟩
/-- copy of records of k cells into a row that is known whole. -/
theorem run_copy_k {P : Program} (w : World) (dT sT ty elem : TypeId) (g o dLen dCap : Nat) (a : Addr) (sLen sCap : Nat) (cur : Array Value) (t : TypeId) (cs : List Value) (k : Nat)
    (hu : P.underlying dT = some (.slice elem)) (hs : (P.info? elem).map (·.size) = some k) (hg : w.heap[g]? = some (.cells cur t (0, 0))) (hn : cs.length = Nat.min sLen dLen * k)
    (hsrc : ∀ j v, cs[j]? = some v → w.cell? (a.add j) = some v) (hfit : o + cs.length ≤ cur.size) (h1 : ∀ v ∈ cs, v.oneCell' = true) :
    (Builtin.copy_ #[dT, sT] ty #[.slice (some ⟨g, o, none⟩) dLen dCap, .slice (some a) sLen sCap]).run P w = .ok (goInt (Nat.min sLen dLen)) (w.setRow g (cur.toList.take o ++ cs ++ cur.toList.drop (o + cs.length)).toArray) := by
  have hl := run_loadCells_list (P := P) w a cs hsrc
  have hst := run_storeCells_at P g o t cs 0 cur w hg (by simpa using hfit) h1
  cases hq : P.info? elem with
  | none => simp [hq] at hs
  | some i =>
    have hi : i.size = k := by simpa [hq] using hs
    simp [Builtin.copy_, run_underlying hu, Builtin.lenOf, Builtin.firstCells, sizeOf, typeInfo, hq, hi, ← hn, hl, hst]
theorem step_copy_k {P : Program} {ops : Array Oper} {o : Oper} {a : Act} {w : World} {K : Act → World → Prop} {Q : Exit → Act → World → Prop} {E : Prop} (hgd : o.guard = none) (d s : Operand) (dT sT : TypeId)
    (ho : o.op = .call { callee := .builtin .copy, args := #[d, s], argTypes := #[dT, sT] }) (v u : Value) (hd : a.eval d = v) (hs : a.eval s = u) {v' : Value} {w' : World} (hr : ∀ ty, (Builtin.copy_ #[dT, sT] ty #[v, u]).run P w = .ok v' w') (hK : K (a.put o.dst v') w') :
    if Region.wanted o (yielded ops a.tmps) = true then Oper.wp P o a w K Q else E := by
  rw [if_pos (by simp [Region.wanted, hgd])]
  unfold Oper.wp
  simp [execOp, ho, resolve, invoke, builtin, hd, hs, hr, Result.andThen]
  exact hK
theorem wpList_copy_k {P : Program} {w : World} {ops : Array Oper} {rest : List Oper} {o : Oper} {a : Act} {Q : Exit → Act → World → Prop} (hgd : o.guard = none) (d s : Operand) (dT sT : TypeId)
    (ho : o.op = .call { callee := .builtin .copy, args := #[d, s], argTypes := #[dT, sT] }) (v u : Value) (hd : a.eval d = v) (hs : a.eval s = u) {v' : Value} {w' : World} (hr : ∀ ty, (Builtin.copy_ #[dT, sT] ty #[v, u]).run P w = .ok v' w')
    (h : wpList P ops Q rest (a.put o.dst v') w') : wpList P ops Q (o :: rest) a w := by
  refine wpList_plain hgd fun K hK => ?_
  unfold Oper.wp
  simp [execOp, ho, resolve, invoke, builtin, hd, hs, hr, Result.andThen]
  exact hK _ _ h
theorem plain_block {w : World} {b : Nat} {cs : Array Value} {t : TypeId} (h : w.heap[b]? = some (.cells cs t (0, 0))) : w.shape? b = some (t, cs.size) ∧ ∀ o, w.frozen? ⟨b, o, none⟩ = false := by
  constructor
  · simp [World.shape?, h]
  · intro o
    simp [World.frozen?, h]
theorem versize : (Tryz.prog.info? 49).map (·.size) = some 5 := by
  obtain ⟨i0, hi0, h0, h1, h2⟩ := info_parts verinfo
  rw [hi0]
  simp [h1]
/-- One put between. -/
def insV (l : List Ver) (i : Nat) (x : Ver) : List Ver := l.take i ++ [x] ++ l.drop i
theorem insV_length {l : List Ver} {i : Nat} (hi : i ≤ l.length) (x : Ver) : (insV l i x).length = l.length + 1 := by
  unfold insV
  simp
  omega
theorem recVals_ins (l : List Ver) (i : Nat) (x : Ver) : recVals verE (insV l i x) = recVals verE (l.take i) ++ (verC x ++ recVals verE (l.drop i)) := by
  unfold insV
  rw [recVals_append, recVals_append, recVals_one, List.append_assoc]
  rfl
theorem len5 (l : List Ver) : (recVals verE l).length = l.length * 5 := recVals_length verE l
/-- What a call of Insert leaves. -/
def InsOk (w w' : World) (v : Value) (l : List Ver) (i : Nat) (x : Ver) (e : Ending) : Prop :=
  ∃ v', e = .returned v' ∧ OwnR verE 49 w' 0 v' (insV l i x) ∧ w.grownBy w' v.ownBlock ∧ ((v'.ownBlock = v.ownBlock ∧ v.ownBlock ≠ none) ∨ ∃ k, v'.ownBlock = some k ∧ w.heap.size ≤ k)
theorem splice_shift {α : Type} (A B R X : List α) (k : Nat) (hX : X.length = k) (hR : k ≤ R.length) (cur : List α) (hc : cur = A ++ (B ++ R)) :
    (((cur.take (A.length + k) ++ B ++ cur.drop (A.length + k + B.length)).take A.length) ++ X ++ ((cur.take (A.length + k) ++ B ++ cur.drop (A.length + k + B.length)).drop (A.length + X.length))).take (A.length + k + B.length) = A ++ (X ++ B) := by
  subst hc
  have e1 : (A ++ (B ++ R)).take (A.length + k) = A ++ (B ++ R).take k := by rw [List.take_append, List.take_of_length_le (Nat.le_add_right _ _), Nat.add_sub_cancel_left]
  have e2 : ((B ++ R).take k).length = k := by rw [List.length_take, List.length_append]; omega
  rw [e1]
  have e3 : (A ++ (B ++ R).take k ++ B ++ (A ++ (B ++ R)).drop (A.length + k + B.length)).take A.length = A := by
    rw [List.append_assoc, List.append_assoc, List.take_left]
  have e4 : (A ++ (B ++ R).take k ++ B ++ (A ++ (B ++ R)).drop (A.length + k + B.length)).drop (A.length + X.length) = B ++ (A ++ (B ++ R)).drop (A.length + k + B.length) := by
    rw [List.append_assoc (A ++ (B ++ R).take k)]
    exact List.drop_left' (by rw [List.length_append, e2, hX])
  rw [e3, e4, ← List.append_assoc, List.take_append_of_le_length (by simp only [List.length_append]; omega), List.take_of_length_le (by simp only [List.length_append]; omega), List.append_assoc]
theorem splice_grow {α : Type} (A B Z X : List α) (k : Nat) (hX : X.length = k) :
    ((((A ++ Z).take A.length ++ X ++ (A ++ Z).drop (A.length + X.length)).take (A.length + k)) ++ B ++ (((A ++ Z).take A.length ++ X ++ (A ++ Z).drop (A.length + X.length)).drop (A.length + k + B.length))).take (A.length + k + B.length) = A ++ (X ++ B) := by
  have e1 : (A ++ Z).take A.length = A := by rw [List.take_left]
  rw [e1]
  have e2 : (A ++ X ++ (A ++ Z).drop (A.length + X.length)).take (A.length + k) = A ++ X := List.take_left' (by rw [List.length_append, hX])
  rw [e2, List.take_append_of_le_length (by simp only [List.length_append]; omega), List.take_of_length_le (by simp only [List.length_append]; omega), List.append_assoc]
/-- append of one version, and where the row lies then. -/
theorem append_at (w : World) (v : Value) (l : List Ver) (x : Ver) (hl : l.length ≤ 1000) (hO : OwnR verE 49 w 0 v l) (vb vc : Nat) (hx : ∀ j u, (verC x)[j]? = some u → w.cell? ⟨vb, j, none⟩ = some u) :
    ∃ v' w', (∀ ty, (Builtin.append_ #[57, 57] ty #[v, .slice (some ⟨vb, 0, none⟩) 1 vc]).run Tryz.prog w = .ok v' w') ∧ OwnR verE 49 w' 0 v' (l ++ [x]) ∧ w.grownBy w' v.ownBlock ∧ ((v'.ownBlock = v.ownBlock ∧ v.ownBlock ≠ none) ∨ ∃ k, v'.ownBlock = some k ∧ w.heap.size ≤ k) := by
  obtain ⟨i0, hi0, hz0, hz1, hzb⟩ := info_parts verinfo
  have hnl : (verC x).length = 1 * 5 := rfl
  have hne : ∀ j u, (verC x)[j]? = some u → w.cell? ((⟨vb, 0, none⟩ : Addr).add j) = some u := fun j u hj => by rw [Addr.add_lit, Nat.zero_add]; exact hx j u hj
  have h1 : ∀ u ∈ verC x, u.oneCell' = true := verE.one x
  obtain ⟨v', w', hr, ho, hg, hnil⟩ := run_append_own (P := Tryz.prog) w 0 57 0 49 i0 _ 5 48 Tryz.underlying57 hi0 hz0 hz1 hzb rfl (by decide) v l.length (recVals verE l) hO ⟨vb, 0, none⟩ 1 vc (verC x) hnl hne h1 (by unfold maxLen; omega) (by omega) (Nat.zero_le _)
  refine ⟨v', w', fun ty => ?_, ?_, hg, ?_⟩
  · have : ∀ ty, (Builtin.append_ #[57, 57] ty #[v, .slice (some ⟨vb, 0, none⟩) 1 vc]).run Tryz.prog w = (Builtin.append_ #[57, 57] 0 #[v, .slice (some ⟨vb, 0, none⟩) 1 vc]).run Tryz.prog w := fun _ => rfl
    rw [this, hr]
  · show World.ownsRow _ _ _ _ _ _ _
    rw [recVals_append, recVals_one, List.length_append]
    exact ho
  · rcases hO.2 with ⟨rfl, hz⟩ | ⟨g, cap, cur, rfl, hbg, hgb, hnc, hcm, hcs, htake⟩
    · refine Or.inr ?_
      have hl0 : l = [] := List.length_eq_zero_iff.1 hz
      subst hl0
      have hr2 := run_append_nil (P := Tryz.prog) w 57 0 49 i0 _ Tryz.underlying57 hi0 hz0 ⟨vb, 0, none⟩ 1 vc (verC x) (by rw [hz1]; rfl) hne (by omega) (by omega) (by rw [hzb]; omega)
      rw [hr] at hr2
      injection hr2 with h2 _
      rw [h2]
      exact ⟨_, rfl, Nat.le_refl _⟩
    · by_cases hroom : l.length + 1 ≤ cap
      · have hr2 := run_append_room (P := Tryz.prog) w 57 0 49 i0 Tryz.underlying57 hi0 g l.length cap cur hgb ⟨vb, 0, none⟩ 1 vc (verC x) (by rw [hz1]; rfl) hne h1 hroom (by rw [hz1, hcs]; show l.length * 5 + 5 ≤ cap * verE.k; have : verE.k = 5 := rfl; rw [this]; omega)
        rw [hr] at hr2
        injection hr2 with h2 _
        rw [h2]
        exact Or.inl ⟨rfl, by simp [Value.ownBlock]⟩
      · refine Or.inr ?_
        have hr2 := run_append_grow (P := Tryz.prog) w 57 0 49 i0 _ Tryz.underlying57 hi0 hz0 ⟨g, 0, none⟩ l.length cap (recVals verE l) (by rw [hz1]; exact recVals_length verE l) (World.ownsRow.cells hO rfl) ⟨vb, 0, none⟩ 1 vc (verC x) (by rw [hz1]; rfl) hne (by omega) (by omega) (by rw [hzb]; exact growslice_fits (by omega) (by omega))
        rw [hr] at hr2
        injection hr2 with h2 _
        rw [h2]
        exact ⟨_, rfl, Nat.le_refl _⟩
theorem wpList_append_runV {P : Program} {w : World} {ops : Array Oper} {rest : List Oper} {o : Oper} {a : Act} {Q : Exit → Act → World → Prop} (hgd : o.guard = none) (s x : Operand) (t t2 : TypeId)
    (ho : o.op = .call { callee := .builtin .append, args := #[s, x], argTypes := #[t, t2] }) (v u : Value) (hs : a.eval s = v) (hx : a.eval x = u) {v' : Value} {w' : World} (hr : ∀ ty, (Builtin.append_ #[t, t2] ty #[v, u]).run P w = .ok v' w')
    (h : wpList P ops Q rest (a.put o.dst v') w') : wpList P ops Q (o :: rest) a w := by
  refine wpList_plain hgd fun K hK => ?_
  unfold Oper.wp
  simp [execOp, ho, resolve, invoke, builtin, hs, hx, hr, Result.andThen]
  exact hK _ _ h
set_option maxRecDepth 10000 in
set_option maxHeartbeats 4000000 in
/-- At the end. -/
theorem insert_end (v : Value) (l : List Ver) (x : Ver) (vb vc : Nat) (w : World) (hl : l.length ≤ 1000) (hO : OwnR verE 49 w 0 v l) (hx : ∀ j u, (verC x)[j]? = some u → w.cell? ⟨vb, j, none⟩ = some u) :
    Calls Tryz.prog 41 #[v, .int .i64 (l.length : Int), .slice (some ⟨vb, 0, none⟩) 1 vc] w fun e w' => InsOk w w' v l l.length x e := by
  obtain ⟨v', w', hr, ho, hg, hwh⟩ := append_at w v l x hl hO vb vc hx
  have HI : Hid (InsOk w w' v l l.length x (.returned v')) := ⟨v', rfl, by unfold insV; rw [List.take_length, List.drop_length, List.append_nil]; exact ho, hg, hwh⟩
  obtain ⟨p, c, hv, _, hlc, hpn, _⟩ := hO.form
  clear ho hg hwh hx hO
  generalize l.length = n at *
  subst hv
  have HPN : Hid (p = none → n = 0 ∧ c = 0) := fun h => ⟨by have := (hpn h).2; omega, (hpn h).2⟩
  clear hpn
  have hb1 : (0 : Int) ≤ (n : Int) := by omega
  cases p with
  | none =>
    obtain ⟨h1, h2⟩ := HPN.out rfl
    subst h1 h2
    go_enter Tryz.func41, Tryz.ntmps41
    go_wp2_with (at_builtin; refine wpList_append_runV rfl _ _ _ _ rfl _ _ rfl rfl hr ?_)
    go_ret
    exact HI.out
  | some a =>
    obtain ⟨ab, ao, asp⟩ := a
    go_enter Tryz.func41, Tryz.ntmps41
    go_wp2_with (at_builtin; refine wpList_append_runV rfl _ _ _ _ rfl _ _ rfl rfl hr ?_)
    all_goals (go_ret; exact HI.out)
set_option maxRecDepth 10000 in
set_option maxHeartbeats 4000000 in
/-- Between, where there is room. -/
theorem insert_shift (g c i : Nat) (l : List Ver) (x : Ver) (vb vc : Nat) (vcs : Array Value) (vt : TypeId) (w : World) (hl : l.length ≤ 1000) (hi : i < l.length) (hroom : l.length + 1 ≤ c) (hO : OwnR verE 49 w 0 (.slice (some ⟨g, 0, none⟩) l.length c) l) (hx : ∀ j u, (verC x)[j]? = some u → w.cell? ⟨vb, j, none⟩ = some u)
    (hvb : vb ≠ g) (hvh : w.heap[vb]? = some (.cells vcs vt (0, 0))) :
    Calls Tryz.prog 41 #[.slice (some ⟨g, 0, none⟩) l.length c, .int .i64 (i : Int), .slice (some ⟨vb, 0, none⟩) 1 vc] w fun e w' => InsOk w w' (.slice (some ⟨g, 0, none⟩) l.length c) l i x e := by
  obtain ⟨n, hn⟩ : ∃ n, n = l.length := ⟨_, rfl⟩
  rcases hO.2 with ⟨h0, _⟩ | ⟨g', cap, cur, hv, hbg, hgb, hnc, hcm, hcs, htake⟩
  · cases h0
  obtain ⟨h1, _, h3⟩ := Value.slice.inj hv
  obtain rfl : g = g' := congrArg Addr.block (Option.some.inj h1)
  subst h3
  have hk5 : verE.k = 5 := rfl
  rw [hk5] at hcs htake
  rw [← hn] at hi hroom hl hnc htake
  have hA : (recVals verE (l.take i)).length = i * 5 := by rw [len5, List.length_take]; congr 1; omega
  have hB : (recVals verE (l.drop i)).length = (n - i) * 5 := by rw [len5, List.length_drop, ← hn]
  have hcur : cur.toList = recVals verE (l.take i) ++ (recVals verE (l.drop i) ++ cur.toList.drop (n * 5)) := by
    conv => lhs; rw [← List.take_append_drop (n * 5) cur.toList, htake, ← List.take_append_drop i l, recVals_append, List.append_assoc]
  have hcl : cur.toList.length = c * 5 := by rw [Array.length_toList]; exact hcs
  have hR : 5 ≤ (cur.toList.drop (n * 5)).length := by rw [List.length_drop, hcl]; omega
  have hX : (verC x).length = 5 := rfl
  obtain ⟨cur1, hc1⟩ : ∃ cur1, cur1 = (cur.toList.take ((i + 1) * 5) ++ recVals verE (l.drop i) ++ cur.toList.drop ((i + 1) * 5 + (recVals verE (l.drop i)).length)).toArray := ⟨_, rfl⟩
  have hs1 : cur1.size = c * 5 := by
    rw [hc1]
    simp only [List.size_toArray, List.length_append, List.length_take, List.length_drop, hcl, hB]
    omega
  obtain ⟨cur2, hc2⟩ : ∃ cur2, cur2 = (cur1.toList.take (i * 5) ++ verC x ++ cur1.toList.drop (i * 5 + (verC x).length)).toArray := ⟨_, rfl⟩
  have hs2 : cur2.size = c * 5 := by
    rw [hc2]
    simp only [List.size_toArray, List.length_append, List.length_take, List.length_drop, Array.length_toList, hs1, hX]
    omega
  have hfin : cur2.toList.take ((n + 1) * 5) = recVals verE (insV l i x) := by
    have := splice_shift (recVals verE (l.take i)) (recVals verE (l.drop i)) (cur.toList.drop (n * 5)) (verC x) 5 hX hR cur.toList hcur
    rw [hA, hB] at this
    rw [recVals_ins, ← this, hc2, hc1, hB]
    have e1 : (i + 1) * 5 = i * 5 + 5 := by omega
    have e2 : (n + 1) * 5 = i * 5 + 5 + (n - i) * 5 := by omega
    rw [e1, e2]
  have hcell : ∀ j u, (recVals verE l)[j]? = some u → w.cell? ⟨g, j, none⟩ = some u := fun j u hj => by
    have := World.ownsRow.cells (g := g) hO rfl j u hj
    rw [Addr.add_lit, Nat.zero_add] at this
    exact this
  have hsrc1 : ∀ j u, (recVals verE (l.drop i))[j]? = some u → w.drew.cell? ((⟨g, i * 5, none⟩ : Addr).add j) = some u := fun j u hj => by
    rw [Addr.add_lit]
    refine hcell (i * 5 + j) u ?_
    rw [← List.take_append_drop i l, recVals_append, List.getElem?_append_right (by rw [hA]; omega), hA, Nat.add_sub_cancel_left]
    exact hj
  have hcp1 : ∀ ty dc sc, (Builtin.copy_ #[57, 57] ty #[.slice (some ⟨g, (i + 1) * 5, none⟩) (n - i) dc, .slice (some ⟨g, i * 5, none⟩) (n + 1 - i) sc]).run Tryz.prog w.drew = .ok (goInt (n - i)) (w.drew.setRow g cur1) := fun ty dc sc => by
    have := run_copy_k (P := Tryz.prog) w.drew 57 57 ty 49 g ((i + 1) * 5) (n - i) dc ⟨g, i * 5, none⟩ (n + 1 - i) sc cur 49 (recVals verE (l.drop i)) 5 Tryz.underlying57 versize hgb (by rw [hB]; congr 1; simp only [Nat.min_def]; split <;> omega) hsrc1 (by rw [hB, hcs]; omega) (recVals_one' verE _)
    rw [this, hc1]
    congr 2
    simp only [Nat.min_def]; split <;> omega
  have hgb1 : (w.drew.setRow g cur1).heap[g]? = some (.cells cur1 49 (0, 0)) := setRow_heap w.drew g cur _ 49 _ hgb
  obtain ⟨W1, hW1⟩ : ∃ W1, W1 = w.drew.setRow g cur1 := ⟨_, rfl⟩
  rw [← hW1] at hcp1 hgb1
  have hsrc2 : ∀ j u, (verC x)[j]? = some u → W1.cell? ((⟨vb, 0, none⟩ : Addr).add j) = some u := fun j u hj => by
    rw [Addr.add_lit, Nat.zero_add, ← hx j u hj]
    have : W1.heap[vb]? = w.heap[vb]? := by rw [hW1]; exact setRow_other w.drew g vb _ hvb
    exact World.cell?_of_block (a := ⟨vb, j, none⟩) this
  have hcp2 : ∀ ty dc, (Builtin.copy_ #[57, 57] ty #[.slice (some ⟨g, i * 5, none⟩) (n + 1 - i) dc, .slice (some ⟨vb, 0, none⟩) 1 vc]).run Tryz.prog W1 = .ok (goInt 1) (W1.setRow g cur2) := fun ty dc => by
    have := run_copy_k (P := Tryz.prog) W1 57 57 ty 49 g (i * 5) (n + 1 - i) dc ⟨vb, 0, none⟩ 1 vc cur1 49 (verC x) 5 Tryz.underlying57 versize hgb1 (by rw [hX]; simp only [Nat.min_def]; split <;> omega) hsrc2 (by rw [hX, hs1]; omega) (verE.one x)
    rw [this, hc2]
    congr 2
    simp only [Nat.min_def]; split <;> omega
  have HI : Hid (InsOk w (W1.setRow g cur2) (.slice (some ⟨g, 0, none⟩) n c) l i x (.returned (.slice (some ⟨g, 0, none⟩) (n + 1) c))) := by
    have hlen : (insV l i x).length = n + 1 := by rw [insV_length (by omega), hn]
    refine ⟨_, rfl, ⟨by rw [len5]; rfl, Or.inr ⟨g, c, cur2, by rw [hlen], Nat.zero_le _, setRow_heap W1 g cur1 _ 49 _ hgb1, by rw [hlen]; exact hroom, hcm, by rw [hk5]; exact hs2, by rw [hlen, hk5]; exact hfin⟩⟩, ?_, Or.inl ⟨rfl, by simp [Value.ownBlock]⟩⟩
    rw [hW1]
    refine ⟨rfl, rfl, rfl, by simp [World.setRow], fun k hk hne => ?_⟩
    have hkg : k ≠ g := fun e => hne (by rw [e]; rfl)
    rw [setRow_other _ g k _ hkg, setRow_other _ g k _ hkg]
    rfl
  have hov : ∀ lb cb, (callFunc 66 #[.slice (some ⟨vb, 0, none⟩) 1 vc, .slice (some ⟨g, (i + 1) * 5, none⟩) lb cb]).run Tryz.prog w = .ok (.value (.bool false)) w := fun lb cb => by
    obtain ⟨hsa, hfa⟩ := plain_block hvh
    obtain ⟨hsb, _⟩ := plain_block hgb
    rw [run_callFunc_extern Tryz.func66 (by kernel_rfl) (by kernel_rfl) (by kernel_rfl) (e := Extern.SlicesOverlaps.overlaps #[57, 57] #[4]) (by kernel_rfl),
      Lib.run_overlaps_apart w 57 4 49 Tryz.underlying57 5 (fun w => by kernel_rfl) ⟨vb, 0, none⟩ ⟨g, (i + 1) * 5, none⟩ 1 vc lb cb hvb _ _ _ _ hsa hsb (by rw [hcs]; omega) (hfa 0) (hfa _)]
    rfl
  rw [← hn]
  clear hW1 hn hfin hs2 hc2 hs1 hc1 hX hR hcl hcur hB hA htake hcs hgb hgb1 hsrc1 hsrc2 hcell hv h1 hO hx hvh hnc hk5 hbg
  have hz2 : ¬ ((i : Int) = (n : Int)) := by omega
  have hw1 : IntKind.i64.wrap ((i : Int) + 1) = (i : Int) + 1 := by rw [IntKind.wrap_i64]; omega
  have hb0 : (0 : Int) ≤ (i : Int) := by omega
  have hb1 : (0 : Int) ≤ (i : Int) + 1 := by omega
  have hin : i ≤ n := by omega
  have htn : ((i : Int) + 1).toNat = i + 1 := by omega
  have hb2 : ¬ (c = i + 1) := by omega
  have hb3 : (i : Int) ≤ (n : Int) + 1 := by omega
  have hb4 : ¬ (c = i) := by omega
  have hb5 : (i : Int) + 1 ≤ (n : Int) + 1 := by omega
  have hb6 : ((n : Int) + 1).toNat = n + 1 := by omega
  have hb7 : (0 : Int) ≤ (n : Int) + 1 := by omega
  have hb8 : (n : Int) + 1 ≤ (c : Int) := by omega
  have hb9 : ¬ ((c : Int) < (n : Int) + 1) := by omega
  have hb10 : IntKind.i64.wrap ((n : Int) + 1) = (n : Int) + 1 := by rw [IntKind.wrap_i64]; omega
  have hb11 : (i : Int) ≤ (n : Int) := by omega
  go_enter Tryz.func41, Tryz.ntmps41
  go_wp2_with (simp only [hov])
  go_region_law (refine step_copy_k rfl _ _ 57 57 rfl _ _ (by simp [Act.eval, Act.put]; rfl) (by simp [Act.eval, Act.put]; rfl) (fun ty => hcp1 ty _ _) ?_)
  go_wp2_with (at_builtin; refine wpList_copy_k rfl _ _ 57 57 rfl _ _ rfl rfl (fun ty => hcp2 ty _) ?_)
  go_ret
  exact HI.out
set_option maxRecDepth 10000 in
set_option maxHeartbeats 4000000 in
/-- Between, where there is no room. -/
theorem insert_grow (g c i : Nat) (l : List Ver) (x : Ver) (vb vc : Nat) (w : World) (hl : l.length ≤ 1000) (hi : i < l.length) (hroom : ¬ l.length + 1 ≤ c) (hO : OwnR verE 49 w 0 (.slice (some ⟨g, 0, none⟩) l.length c) l) (hx : ∀ j u, (verC x)[j]? = some u → w.cell? ⟨vb, j, none⟩ = some u) (hvb : vb < w.heap.size) :
    Calls Tryz.prog 41 #[.slice (some ⟨g, 0, none⟩) l.length c, .int .i64 (i : Int), .slice (some ⟨vb, 0, none⟩) 1 vc] w fun e w' => InsOk w w' (.slice (some ⟨g, 0, none⟩) l.length c) l i x e := by
  obtain ⟨n, hn⟩ : ∃ n, n = l.length := ⟨_, rfl⟩
  have hglt : g < w.heap.size := (hO.block (k := g) rfl).2
  obtain ⟨i0, hi0, hz0, hz1, hzb⟩ := info_parts verinfo
  have hnc : n ≤ c := by
    obtain ⟨_, _, hvf, _, hnc, _, _⟩ := hO.form
    obtain ⟨_, _, hvf3⟩ := Value.slice.inj hvf
    rw [← hvf3, ← hn] at hnc
    exact hnc
  have hk5 : verE.k = 5 := rfl
  have hcell : ∀ j u, (recVals verE l)[j]? = some u → w.cell? ⟨g, j, none⟩ = some u := fun j u hj => by
    have := World.ownsRow.cells (g := g) hO rfl j u hj
    rw [Addr.add_lit, Nat.zero_add] at this
    exact this
  rw [← hn] at hi hroom hl
  have hA : (recVals verE (l.take i)).length = i * 5 := by rw [len5, List.length_take]; congr 1; omega
  have hB : (recVals verE (l.drop i)).length = (n - i) * 5 := by rw [len5, List.length_drop, ← hn]
  have hX : (verC x).length = 5 := rfl
  have hcA : ∀ j u, (recVals verE (l.take i))[j]? = some u → w.drew.cell? ((⟨g, 0, none⟩ : Addr).add j) = some u := fun j u hj => by
    rw [Addr.add_lit, Nat.zero_add]
    refine hcell j u ?_
    rw [← List.take_append_drop i l, recVals_append, List.getElem?_append_left (List.getElem?_eq_some_iff.1 hj).1]
    exact hj
  have hold : (Builtin.firstCells i0.size i (.slice (some ⟨g, 0, none⟩) i c)).run Tryz.prog w.drew = .ok (recVals verE (l.take i)).toArray w.drew := by
    rw [hz1]
    exact run_firstCells_some w.drew 5 i ⟨g, 0, none⟩ i c _ hA hcA
  have hik : i + (n + 1 - i) = n + 1 := by omega
  have hrz : ∀ ty, (Builtin.append_ #[57, 3] ty #[.slice (some ⟨g, 0, none⟩) i c, .int .i64 (((n + 1 - i : Nat)) : Int)]).run Tryz.prog w = _ := fun ty =>
    Lib.run_append_grow_zeros w 57 3 ty 49 i0 _ .i64 .i64 Tryz.underlying57 Tryz.underlying3 hi0 hz0 (some ⟨g, 0, none⟩) i c (recVals verE (l.take i)) hold (n + 1 - i) (by omega) (by rw [hz1]; decide) (by omega) (by omega) (by rw [hzb]; omega) (by rw [hzb]; exact growslice_fits (by omega) (by omega))
  rw [hik] at hrz
  have hGn : n + 1 ≤ grownCap w (n + 1) c 49 := grownCap_ge w _ _ _
  have hGm : grownCap w (n + 1) c 49 ≤ maxLen := grownCap_le_maxLen w (n + 1) c 49 (by unfold maxLen; omega)
  generalize hG : grownCap w (n + 1) c 49 = G at *
  clear hG
  have hG63 : G ≤ 9223372036854775807 := by unfold maxLen at hGm; omega
  obtain ⟨Z, hZ⟩ : ∃ Z : List Value, Z = (Builtin.zeroCells (Value.agg #[.int .i64 0, .int .i64 0, .int .i64 0, .int .i64 0, .string ⟨#[]⟩]).cells (n + 1 - i) ++ Builtin.zeroCells (Value.agg #[.int .i64 0, .int .i64 0, .int .i64 0, .int .i64 0, .string ⟨#[]⟩]).cells (G - (n + 1))).toList := ⟨_, rfl⟩
  have hZl : Z.length = (G - i) * 5 := by
    have e5 : (Value.agg #[.int .i64 0, .int .i64 0, .int .i64 0, .int .i64 0, .string ⟨#[]⟩]).cells.size = 5 := rfl
    rw [hZ]
    simp [size_zeroCells, e5]
    omega
  obtain ⟨cur, hcur⟩ : ∃ cur : Array Value, cur = (recVals verE (l.take i) ++ Z).toArray := ⟨_, rfl⟩
  have hcs : cur.size = G * 5 := by rw [hcur]; simp only [List.size_toArray, List.length_append, hA, hZl]; omega
  have hrz2 : ∀ ty, (Builtin.append_ #[57, 3] ty #[.slice (some ⟨g, 0, none⟩) i c, .int .i64 (((n + 1 - i : Nat)) : Int)]).run Tryz.prog w = .ok (.slice (some ⟨w.heap.size, 0, none⟩) (n + 1) G) (w.drew.alloc (.cells cur 49)) := fun ty => by
    rw [hrz ty, hcur, hZ]
    congr 3
    simp
  clear hrz hold hZ
  obtain ⟨W0, hW0⟩ : ∃ W0, W0 = w.drew.alloc (.cells cur 49) := ⟨_, rfl⟩
  rw [← hW0] at hrz2
  have hg0 : W0.heap[w.heap.size]? = some (.cells cur 49 (0, 0)) := by rw [hW0]; exact heap_alloc_new w.drew _
  have hold0 : ∀ k, k < w.heap.size → W0.heap[k]? = w.heap[k]? := fun k hk => by rw [hW0]; exact heap_alloc_old w.drew _ hk
  have hsz0 : W0.heap.size = w.heap.size + 1 := by rw [hW0]; simp
  obtain ⟨cur1, hc1⟩ : ∃ cur1, cur1 = (cur.toList.take (i * 5) ++ verC x ++ cur.toList.drop (i * 5 + (verC x).length)).toArray := ⟨_, rfl⟩
  have hs1 : cur1.size = G * 5 := by
    rw [hc1]
    simp only [List.size_toArray, List.length_append, List.length_take, List.length_drop, Array.length_toList, hcs, hX]
    omega
  have hsrc1 : ∀ j u, (verC x)[j]? = some u → W0.cell? ((⟨vb, 0, none⟩ : Addr).add j) = some u := fun j u hj => by
    rw [Addr.add_lit, Nat.zero_add, ← hx j u hj]
    exact World.cell?_of_block (a := ⟨vb, j, none⟩) (hold0 vb hvb)
  have hcp1 : ∀ ty dc, (Builtin.copy_ #[57, 57] ty #[.slice (some ⟨w.heap.size, i * 5, none⟩) (n + 1 - i) dc, .slice (some ⟨vb, 0, none⟩) 1 vc]).run Tryz.prog W0 = .ok (goInt 1) (W0.setRow w.heap.size cur1) := fun ty dc => by
    have := run_copy_k (P := Tryz.prog) W0 57 57 ty 49 w.heap.size (i * 5) (n + 1 - i) dc ⟨vb, 0, none⟩ 1 vc cur 49 (verC x) 5 Tryz.underlying57 versize hg0 (by rw [hX]; simp only [Nat.min_def]; split <;> omega) hsrc1 (by rw [hX, hcs]; omega) (verE.one x)
    rw [this, hc1]
    congr 2
    simp only [Nat.min_def]; split <;> omega
  have hg1 : (W0.setRow w.heap.size cur1).heap[w.heap.size]? = some (.cells cur1 49 (0, 0)) := setRow_heap W0 w.heap.size cur _ 49 _ hg0
  obtain ⟨W1, hW1⟩ : ∃ W1, W1 = W0.setRow w.heap.size cur1 := ⟨_, rfl⟩
  rw [← hW1] at hcp1 hg1
  have hold1 : ∀ k, k < w.heap.size → W1.heap[k]? = w.heap[k]? := fun k hk => by rw [hW1, setRow_other _ _ _ _ (by omega)]; exact hold0 k hk
  obtain ⟨cur2, hc2⟩ : ∃ cur2, cur2 = (cur1.toList.take ((i + 1) * 5) ++ recVals verE (l.drop i) ++ cur1.toList.drop ((i + 1) * 5 + (recVals verE (l.drop i)).length)).toArray := ⟨_, rfl⟩
  have hs2 : cur2.size = G * 5 := by
    rw [hc2]
    simp only [List.size_toArray, List.length_append, List.length_take, List.length_drop, Array.length_toList, hs1, hB]
    omega
  have hsrc2 : ∀ j u, (recVals verE (l.drop i))[j]? = some u → W1.drew.cell? ((⟨g, i * 5, none⟩ : Addr).add j) = some u := fun j u hj => by
    rw [Addr.add_lit]
    have h1 := hcell (i * 5 + j) u (by
      rw [← List.take_append_drop i l, recVals_append, List.getElem?_append_right (by rw [hA]; omega), hA, Nat.add_sub_cancel_left]
      exact hj)
    rw [← h1]
    exact World.cell?_of_block (a := ⟨g, i * 5 + j, none⟩) (w' := W1.drew) (hold1 g hglt)
  have hcp2 : ∀ ty dc sc, (Builtin.copy_ #[57, 57] ty #[.slice (some ⟨w.heap.size, (i + 1) * 5, none⟩) (n - i) dc, .slice (some ⟨g, i * 5, none⟩) (n - i) sc]).run Tryz.prog W1.drew = .ok (goInt ((n - i : Nat) : Int)) (W1.drew.setRow w.heap.size cur2) := fun ty dc sc => by
    have := run_copy_k (P := Tryz.prog) W1.drew 57 57 ty 49 w.heap.size ((i + 1) * 5) (n - i) dc ⟨g, i * 5, none⟩ (n - i) sc cur1 49 (recVals verE (l.drop i)) 5 Tryz.underlying57 versize hg1 (by rw [hB]; congr 1; simp only [Nat.min_def]; split <;> omega) hsrc2 (by rw [hB, hs1]; omega) (recVals_one' verE _)
    rw [this, hc2]
    congr 3
    simp only [Nat.min_def]; split <;> omega
  have hfin : cur2.toList.take ((n + 1) * 5) = recVals verE (insV l i x) := by
    have := splice_grow (recVals verE (l.take i)) (recVals verE (l.drop i)) Z (verC x) 5 hX
    rw [hA, hB] at this
    rw [recVals_ins, ← this, hc2, hc1, hcur, hB]
    have e1 : (i + 1) * 5 = i * 5 + 5 := by omega
    have e2 : (n + 1) * 5 = i * 5 + 5 + (n - i) * 5 := by omega
    rw [e1, e2]
  have HI : Hid (InsOk w (W1.drew.setRow w.heap.size cur2) (.slice (some ⟨g, 0, none⟩) n c) l i x (.returned (.slice (some ⟨w.heap.size, 0, none⟩) (n + 1) G))) := by
    have hlen : (insV l i x).length = n + 1 := by rw [insV_length (by omega), hn]
    refine ⟨_, rfl, ⟨by rw [len5]; rfl, Or.inr ⟨w.heap.size, G, cur2, by rw [hlen], Nat.zero_le _, setRow_heap W1.drew w.heap.size cur1 _ 49 _ hg1, by rw [hlen]; exact hGn, hGm, by rw [hk5]; exact hs2, by rw [hlen, hk5]; exact hfin⟩⟩, ?_, Or.inr ⟨_, rfl, Nat.le_refl _⟩⟩
    refine ⟨by rw [hW1, hW0]; rfl, by rw [hW1, hW0]; rfl, by rw [hW1, hW0]; rfl, ?_, fun k hk hne => ?_⟩
    · rw [hW1]
      show w.heap.size ≤ _
      simp [World.setRow]
      omega
    · rw [setRow_other _ _ k _ (by omega)]
      exact hold1 k hk
  rw [← hn]
  clear hold0 hold1 hW0 hsz0 hg0 hcs hZl hcur hcA hglt hi0 hz0 hz1 hzb hvb hW1 hn hfin hs2 hc2 hs1 hc1 hX hB hA hg1 hsrc1 hsrc2 hcell hO hx hk5 hGm
  have hz2 : ¬ ((i : Int) = (n : Int)) := by omega
  have hw1 : IntKind.i64.wrap ((i : Int) + 1) = (i : Int) + 1 := by rw [IntKind.wrap_i64]; omega
  have hb0 : (0 : Int) ≤ (i : Int) := by omega
  have hb1 : (0 : Int) ≤ (i : Int) + 1 := by omega
  have hin : i ≤ n := by omega
  have htn : ((i : Int) + 1).toNat = i + 1 := by omega
  have hb2 : ¬ (G = i + 1) := by omega
  have hb3 : (i : Int) ≤ (n : Int) + 1 := by omega
  have hb4 : ¬ (c = i) := by omega
  have hb4' : ¬ (G = i) := by omega
  have hb5 : (i : Int) + 1 ≤ (n : Int) + 1 := by omega
  have hb9 : decide ((c : Int) < (n : Int) + 1) = true := decide_eq_true (by omega)
  have hb10 : IntKind.i64.wrap ((n : Int) + 1) = (n : Int) + 1 := by rw [IntKind.wrap_i64]; omega
  have hb11 : (i : Int) ≤ (n : Int) := by omega
  have hb12 : (i : Int) ≤ (c : Int) := by omega
  have eK : (((n + 1 - i : Nat)) : Int) = (n : Int) + 1 - (i : Int) := by omega
  rw [eK] at hrz2
  clear eK
  go_enter Tryz.func41, Tryz.ntmps41
  go_wp2_with (first | (at_builtin; refine wpList_append_runV rfl _ _ _ _ rfl _ _ rfl rfl hrz2 ?_) | (at_builtin; refine wpList_copy_k rfl _ _ 57 57 rfl _ _ rfl rfl (fun ty => hcp1 ty _) ?_))
  go_region_law (refine step_copy_k rfl _ _ 57 57 rfl _ _ (by simp [Act.eval, Act.put]; rfl) (by simp [Act.eval, Act.put]; rfl) (fun ty => hcp2 ty _ _) ?_)
  go_wp2
  go_ret
  exact HI.out
/-- One version put into a row that the caller owns, wherever. -/
theorem insert_any (v : Value) (l : List Ver) (i : Nat) (x : Ver) (vb vc : Nat) (vcs : Array Value) (vt : TypeId) (w : World) (hl : l.length ≤ 1000) (hi : i ≤ l.length) (hO : OwnR verE 49 w 0 v l) (hx : ∀ j u, (verC x)[j]? = some u → w.cell? ⟨vb, j, none⟩ = some u)
    (hvb : ∀ k, v.ownBlock = some k → vb ≠ k) (hvh : w.heap[vb]? = some (.cells vcs vt (0, 0))) :
    Calls Tryz.prog 41 #[v, .int .i64 (i : Int), .slice (some ⟨vb, 0, none⟩) 1 vc] w fun e w' => InsOk w w' v l i x e := by
  by_cases he : i = l.length
  · subst he
    exact insert_end v l x vb vc w hl hO hx
  · have hi' : i < l.length := by omega
    rcases hO.2 with ⟨_, h0⟩ | ⟨g, cap, cur, rfl, _⟩
    · omega
    · by_cases hroom : l.length + 1 ≤ cap
      · exact insert_shift g cap i l x vb vc vcs vt w hl hi' hroom hO hx (hvb g rfl) hvh
      · exact insert_grow g cap i l x vb vc w hl hi' hroom hO hx (Array.getElem?_eq_some_iff.1 hvh).1
end Go.Proofs.YtmbpfbhpmafheaaGreatDoor
