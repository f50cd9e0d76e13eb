/- Texts laid together. -/
import Derived.Test.YtmbpfbhpmafheaaGreatDoorHs1
import Derived.Shelf.LaysM
import Derived.Shelf.Strconv.Clone
import Derived.Shelf.GgClosure.StringsIndexFuncTop
import Derived.Laws.RangeAny
namespace Go.Proofs
open Go.Shelf
def Tryz.lays316_ren : Go.Shelf.Ren := ⟨fun | 316 => 70 | n => n, fun | 9 => 9 | 3 => 3 | 4 => 4 | 37 => 53 | 0 => 0 | 127 => 122 | 5 => 5 | n => n, fun | n => n⟩
theorem Tryz.lays316 : Go.Proofs.LaysM.n316 Tryz.prog Tryz.lays316_ren := {
  mixed := by kernel_rfl
  f316 := Tryz.func70.trans (congrArg some (by kernel_rfl))
  t0 := Tryz.underlying0
  a0 := Tryz.isAgg0
  z0 := Tryz.sizeOf0
  v0 := Tryz.zeroValue0
  t3 := Tryz.underlying3
  a3 := Tryz.isAgg3
  z3 := Tryz.sizeOf3
  v3 := Tryz.zeroValue3
  t4 := Tryz.underlying4
  a4 := Tryz.isAgg4
  z4 := Tryz.sizeOf4
  v4 := Tryz.zeroValue4
  t9 := Tryz.underlying9
  a9 := Tryz.isAgg9
  z9 := Tryz.sizeOf9
  v9 := Tryz.zeroValue9
  t37 := Tryz.underlying53
  a37 := Tryz.isAgg53
  z37 := Tryz.sizeOf53
  v37 := Tryz.zeroValue53
  t127 := Tryz.underlying122
  a127 := Tryz.isAgg122
  z127 := Tryz.sizeOf122
  v127 := Tryz.zeroValue122
  t5 := Tryz.underlying5
  a5 := Tryz.isAgg5
  z5 := Tryz.sizeOf5
  v5 := Tryz.zeroValue5
  i0 := by kernel_rfl
  i3 := by kernel_rfl
  i4 := by kernel_rfl
  i5 := by kernel_rfl
  i9 := by kernel_rfl
  i37 := by kernel_rfl
  i127 := by kernel_rfl }
open Go.RowKit in
/-- internal/stringslite.Clone. -/
theorem Tryz.stringslite_Clone (s : ByteArray) (w : World) (hlim : s.size ≤ 281474976710656) :
    Calls Tryz.prog 70 #[.string s] w fun e w' => e = .returned (.string s) ∧ Below w.heap.size w w' := Any.stringslite_Clone Tryz.lays316 s w hlim
def Tryz.laysGw17_ren : Go.Shelf.Ren := ⟨fun | 17 => 60 | 15 => 88 | 20 => 109 | n => n, fun | 9 => 9 | 23 => 111 | 4 => 4 | 3 => 3 | 0 => 0 | 21 => 21 | n => n, fun | n => n⟩
theorem Tryz.laysGw17 : Go.Proofs.LaysGw.n17 Tryz.prog Tryz.laysGw17_ren := {
  mixed := by kernel_rfl
  f15 := Tryz.func88.trans (congrArg some (by kernel_rfl))
  f17 := Tryz.func60.trans (congrArg some (by kernel_rfl))
  f20 := Tryz.func109.trans (congrArg some (by kernel_rfl))
  t0 := Tryz.underlying0
  a0 := Tryz.isAgg0
  z0 := Tryz.sizeOf0
  v0 := Tryz.zeroValue0
  i0 := by kernel_rfl
  t3 := Tryz.underlying3
  a3 := Tryz.isAgg3
  z3 := Tryz.sizeOf3
  v3 := Tryz.zeroValue3
  i3 := by kernel_rfl
  t4 := Tryz.underlying4
  a4 := Tryz.isAgg4
  z4 := Tryz.sizeOf4
  v4 := Tryz.zeroValue4
  i4 := by kernel_rfl
  t9 := Tryz.underlying9
  a9 := Tryz.isAgg9
  z9 := Tryz.sizeOf9
  v9 := Tryz.zeroValue9
  i9 := by kernel_rfl
  t21 := Tryz.underlying21
  a21 := Tryz.isAgg21
  z21 := Tryz.sizeOf21
  v21 := Tryz.zeroValue21
  i21 := by kernel_rfl
  t23 := Tryz.underlying111
  a23 := Tryz.isAgg111
  z23 := Tryz.sizeOf111
  v23 := Tryz.zeroValue111
  i23 := by kernel_rfl }
open Go.RowKit in
/-- strings.ContainsFunc. -/
theorem Tryz.strings_ContainsFunc (g : Nat) (lb : Array Value) (eg : ∀ args w, (callFunc g args).run Tryz.prog w = .ok (.enter g args) w) (p : Nat → Bool) (s : ByteArray) (w : World) (hp : PredAt Tryz.prog g lb encR p w) :
    Calls Tryz.prog 60 #[.string s, .func (.func g) #[] lb] w fun e w' => e = .returned (.bool (decide (0 ≤ Lib.idxFunc p true s))) ∧ Below w.heap.size w w' := Any.strings_ContainsFunc Tryz.laysGw17 g lb eg p s w hp
end Go.Proofs
namespace Go.Proofs.YtmbpfbhpmafheaaGreatDoor
open Go.RowKit
/-- Texts in the language's own order. -/
def kl (x y : ByteArray) : Prop := Op.bytesLess x.toList y.toList = true
theorem bless_irrefl : ∀ l : List UInt8, Op.bytesLess l l = false
  | [] => rfl
  | a :: l => by simp [Op.bytesLess, bless_irrefl l]
theorem bless_trans : ∀ {l m n : List UInt8}, Op.bytesLess l m = true → Op.bytesLess m n = true → Op.bytesLess l n = true
  | _, [], _, h, _ => by simp [Op.bytesLess] at h
  | _, _ :: _, [], _, h => by simp [Op.bytesLess] at h
  | [], _ :: _, _ :: _, _, _ => rfl
  | a :: l, b :: m, c :: n, h1, h2 => by
    simp only [Op.bytesLess, Bool.or_eq_true, decide_eq_true_eq, Bool.and_eq_true, beq_iff_eq] at h1 h2 ⊢
    rcases h1 with h1 | ⟨e1, h1⟩
    · rcases h2 with h2 | ⟨e2, h2⟩
      · exact Or.inl (UInt8.lt_trans h1 h2)
      · exact Or.inl (e2 ▸ h1)
    · rcases h2 with h2 | ⟨e2, h2⟩
      · exact Or.inl (e1 ▸ h2)
      · exact Or.inr ⟨e1.trans e2, bless_trans h1 h2⟩
theorem bless_total : ∀ {l m : List UInt8}, l ≠ m → Op.bytesLess l m = true ∨ Op.bytesLess m l = true
  | [], [], h => absurd rfl h
  | [], _ :: _, _ => Or.inl rfl
  | _ :: _, [], _ => Or.inr rfl
  | a :: l, b :: m, h => by
    simp only [Op.bytesLess, Bool.or_eq_true, decide_eq_true_eq, Bool.and_eq_true, beq_iff_eq]
    by_cases e : a = b
    · subst e
      rcases bless_total (l := l) (m := m) (fun e2 => h (by rw [e2])) with h2 | h2
      · exact Or.inl (Or.inr ⟨rfl, h2⟩)
      · exact Or.inr (Or.inr ⟨rfl, h2⟩)
    · rcases (show a < b ∨ b < a by
        rcases Nat.lt_or_ge a.toNat b.toNat with h3 | h3
        · exact Or.inl (UInt8.lt_iff_toNat_lt.2 h3)
        · exact Or.inr (UInt8.lt_iff_toNat_lt.2 (Nat.lt_of_le_of_ne h3 (fun e2 => e (UInt8.toNat_inj.1 e2.symm))))) with h3 | h3
      · exact Or.inl (Or.inl h3)
      · exact Or.inr (Or.inl h3)
theorem kl_irrefl (x : ByteArray) : ¬ kl x x := by unfold kl; rw [bless_irrefl]; decide
theorem kl_trans {x y z : ByteArray} (h1 : kl x y) (h2 : kl y z) : kl x z := bless_trans h1 h2
theorem kl_total {x y : ByteArray} (h : x ≠ y) : kl x y ∨ kl y x := bless_total (toList_ne h)
/-- Tags in their order. -/
theorem lessB_iff {a b : Int × Int} : lessB a b = true ↔ a.1 < b.1 ∨ a.1 = b.1 ∧ a.2 < b.2 := by simp [lessB]
theorem lessB_irrefl (a : Int × Int) : lessB a a = false := by simp [lessB]
theorem lessB_trans {a b c : Int × Int} (h1 : lessB a b = true) (h2 : lessB b c = true) : lessB a c = true := by
  rw [lessB_iff] at *
  omega
theorem lessB_total {a b : Int × Int} (h : a ≠ b) : lessB a b = true ∨ lessB b a = true := by
  rw [lessB_iff, lessB_iff]
  obtain ⟨a1, a2⟩ := a
  obtain ⟨b1, b2⟩ := b
  simp only [ne_eq, Prod.mk.injEq] at h ⊢
  omega
/-- The tag of a version. -/
def tagOf (v : Ver) : Int × Int := (v.n, v.who)
theorem before_iff {x : Kep} {key : ByteArray} {v : Ver} : beforeB x key v = true ↔ kl x.1 key ∨ x.1 = key ∧ lessB (tagOf x.2) (tagOf v) = true := by
  unfold beforeB kl tagOf
  simp
theorem before_trans {x y z : Kep} (h1 : beforeB x y.1 y.2 = true) (h2 : beforeB y z.1 z.2 = true) : beforeB x z.1 z.2 = true := by
  rw [before_iff] at *
  rcases h1 with h1 | ⟨e1, h1⟩
  · rcases h2 with h2 | ⟨e2, _⟩
    · exact Or.inl (kl_trans h1 h2)
    · exact Or.inl (e2 ▸ h1)
  · rcases h2 with h2 | ⟨e2, h2⟩
    · exact Or.inl (e1 ▸ h2)
    · exact Or.inr ⟨e1.trans e2, lessB_trans h1 h2⟩
theorem before_irrefl (x : Kep) : ¬ beforeB x x.1 x.2 = true := by
  rw [before_iff]
  rintro (h | ⟨_, h⟩)
  · exact kl_irrefl _ h
  · rw [lessB_irrefl] at h; cases h
theorem before_total {x y : Kep} (h : ¬ (x.1 = y.1 ∧ tagOf x.2 = tagOf y.2)) : beforeB x y.1 y.2 = true ∨ beforeB y x.1 x.2 = true := by
  rw [before_iff, before_iff]
  by_cases e : x.1 = y.1
  · rcases lessB_total (a := tagOf x.2) (b := tagOf y.2) (fun e2 => h ⟨e, e2⟩) with h2 | h2
    · exact Or.inl (Or.inr ⟨e, h2⟩)
    · exact Or.inr (Or.inr ⟨e.symm, h2⟩)
  · rcases kl_total e with h2 | h2
    · exact Or.inl (Or.inl h2)
    · exact Or.inr (Or.inl h2)
/-- What is kept stands by key, then by tag. -/
def SortedK (L : List Kep) : Prop := L.Pairwise fun x y => beforeB x y.1 y.2 = true
theorem getL_append (L M : List Kep) (key : ByteArray) : getL (L ++ M) key = getL L key ++ getL M key := by
  unfold getL
  rw [List.filter_append, List.map_append]
theorem getL_one_yes {x : Kep} {key : ByteArray} (h : x.1 = key) : getL [x] key = [x.2] := by
  unfold getL
  rw [List.filter_cons_of_pos (by simpa using h)]
  rfl
theorem getL_one_no {x : Kep} {key : ByteArray} (h : x.1 ≠ key) : getL [x] key = [] := by
  unfold getL
  rw [List.filter_cons_of_neg (by simpa using h)]
  rfl
theorem mem_getL {L : List Kep} {key : ByteArray} {v : Ver} : v ∈ getL L key ↔ (key, v) ∈ L := by
  unfold getL
  rw [List.mem_map]
  constructor
  · rintro ⟨x, hx, rfl⟩
    obtain ⟨h1, h2⟩ := List.mem_filter.1 hx
    have : x.1 = key := by simpa using h2
    rw [← this]
    exact h1
  · intro h
    exact ⟨(key, v), List.mem_filter.2 ⟨h, by simp⟩, rfl⟩
/-- A key's versions rise. -/
theorem getL_sorted {L : List Kep} (h : SortedK L) (key : ByteArray) : (getL L key).Pairwise fun x y => lessB (tagOf x) (tagOf y) = true := by
  unfold getL
  rw [List.pairwise_map]
  have h2 : (L.filter fun x => decide (x.1 = key)).Pairwise fun x y => beforeB x y.1 y.2 = true := h.filter _
  refine h2.imp_of_mem ?_
  intro x y hx hy hb
  have hx' : x.1 = key := by simpa using (List.mem_filter.1 hx).2
  have hy' : y.1 = key := by simpa using (List.mem_filter.1 hy).2
  rcases before_iff.1 hb with h3 | ⟨_, h3⟩
  · rw [hx', hy'] at h3
    exact absurd h3 (kl_irrefl _)
  · exact h3
/-! keys -/
theorem keysTo_congr {L M : List Kep} : ∀ i, (∀ j, j < i → kepAt L j = kepAt M j) → keysTo L i = keysTo M i
  | 0, _ => rfl
  | i + 1, h => by
    have ih := keysTo_congr (L := L) (M := M) i (fun j hj => h j (by omega))
    show (if _ then _ else _) = (if _ then _ else _)
    rw [ih, h i (by omega)]
theorem kepAt_append_left {L M : List Kep} {j : Nat} (h : j < L.length) : kepAt (L ++ M) j = kepAt L j := by
  unfold kepAt
  rw [List.getD_eq_getElem?_getD, List.getD_eq_getElem?_getD, List.getElem?_append_left h]
theorem kepAt_snoc (L : List Kep) (x : Kep) : kepAt (L ++ [x]) L.length = x := by
  unfold kepAt
  rw [List.getD_eq_getElem?_getD, List.getElem?_append_right (Nat.le_refl _), Nat.sub_self]
  rfl
/-- The keys that have a version, as the model tells them. -/
def keysL (L : List Kep) : List ByteArray := keysTo L L.length
theorem keysL_snoc (L : List Kep) (x : Kep) : keysL (L ++ [x]) = if (keysL L).length = 0 ∨ txt (keysL L) ((keysL L).length - 1) ≠ x.1 then keysL L ++ [x.1] else keysL L := by
  have e : keysTo (L ++ [x]) L.length = keysL L := keysTo_congr _ fun j hj => kepAt_append_left hj
  unfold keysL at *
  rw [List.length_append]
  show (if _ then _ else _) = _
  rw [e, kepAt_snoc]
theorem txt_last {l : List ByteArray} {x : ByteArray} : txt (l ++ [x]) ((l ++ [x]).length - 1) = x := by
  unfold txt
  rw [List.length_append, List.getD_eq_getElem?_getD, List.getElem?_append_right (by simp)]
  simp
/-- The kept ones by their keys. -/
def byKey (K : List ByteArray) (L : List Kep) : List Kep := K.flatMap fun k => (getL L k).map fun v => (k, v)
theorem byKey_congr {K : List ByteArray} {L M : List Kep} (h : ∀ k ∈ K, getL L k = getL M k) : byKey K L = byKey K M := by
  induction K with
  | nil => rfl
  | cons a K ih =>
    have ih' := ih fun k hk => h k (by simp [hk])
    unfold byKey at ih' ⊢
    rw [List.flatMap_cons, List.flatMap_cons, ih', h a (by simp)]
theorem byKey_append (K K' : List ByteArray) (L : List Kep) : byKey (K ++ K') L = byKey K L ++ byKey K' L := by
  unfold byKey
  rw [List.flatMap_append]
structure KeysOk (L : List Kep) : Prop where
  rising : (keysL L).Pairwise kl
  mem : ∀ k, k ∈ keysL L ↔ getL L k ≠ []
  all : byKey (keysL L) L = L
  last : ∀ x, L.getLast? = some x → (keysL L).getLast? = some x.1
theorem list_snoc_ind {α : Type} {P : List α → Prop} (h0 : P []) (h1 : ∀ l x, P l → P (l ++ [x])) : ∀ l, P l := by
  intro l
  rw [← List.reverse_reverse l]
  induction l.reverse with
  | nil => exact h0
  | cons a l ih => rw [List.reverse_cons]; exact h1 _ _ ih
theorem keysOk : ∀ L : List Kep, SortedK L → KeysOk L := by
  refine list_snoc_ind ?_ ?_
  · intro _
    refine ⟨List.Pairwise.nil, fun k => ?_, rfl, fun x h => by simp at h⟩
    show k ∈ ([] : List ByteArray) ↔ getL [] k ≠ []
    simp [getL]
  · intro L x ih hs
    obtain ⟨hs1, _, hs2⟩ := List.pairwise_append.1 hs
    have hs2' : ∀ y ∈ L, beforeB y x.1 x.2 = true := fun y hy => hs2 y hy x (by simp)
    have I := ih hs1
    have hkey : ∀ k ∈ keysL L, kl k x.1 ∨ k = x.1 := fun k hk => by
      have h1 := (I.mem k).1 hk
      obtain ⟨v, hv⟩ := List.exists_mem_of_ne_nil _ h1
      rcases before_iff.1 (hs2' _ (mem_getL.1 hv)) with h2 | ⟨h2, _⟩
      · exact Or.inl h2
      · exact Or.inr h2
    have hgn : ∀ k, k ≠ x.1 → getL (L ++ [x]) k = getL L k := fun k hk => by rw [getL_append, getL_one_no (Ne.symm hk), List.append_nil]
    have hgy : getL (L ++ [x]) x.1 = getL L x.1 ++ [x.2] := by rw [getL_append, getL_one_yes rfl]
    by_cases hc : (keysL L).length = 0 ∨ txt (keysL L) ((keysL L).length - 1) ≠ x.1
    · have e : keysL (L ++ [x]) = keysL L ++ [x.1] := by rw [keysL_snoc, if_pos hc]
      have hnew : x.1 ∉ keysL L := by
        intro hin
        rcases hc with h0 | h0
        · rw [List.length_eq_zero_iff.1 h0] at hin; cases hin
        · have hne : keysL L ≠ [] := List.ne_nil_of_mem hin
          obtain ⟨K, k, hK⟩ : ∃ K k, keysL L = K ++ [k] := ⟨_, _, (List.dropLast_concat_getLast hne).symm⟩
          rw [hK, txt_last] at h0
          have hkk : k ∈ keysL L := by rw [hK]; simp
          have h1 : kl k x.1 := (hkey k hkk).resolve_right h0
          have hr := I.rising
          rw [hK] at hr hin
          obtain ⟨_, _, hr2⟩ := List.pairwise_append.1 hr
          rcases List.mem_append.1 hin with h3 | h3
          · exact kl_irrefl _ (kl_trans (hr2 _ h3 k (by simp)) h1)
          · exact h0 (List.mem_singleton.1 h3).symm
      refine ⟨?_, fun k => ?_, ?_, fun y hy => ?_⟩
      · rw [e]
        refine List.pairwise_append.2 ⟨I.rising, List.pairwise_singleton _ _, fun a ha b hb => ?_⟩
        rw [List.mem_singleton.1 hb]
        rcases hkey a ha with h1 | h1
        · exact h1
        · exact absurd (h1 ▸ ha) hnew
      · rw [e, List.mem_append, List.mem_singleton]
        by_cases hk : k = x.1
        · subst hk
          rw [hgy]
          simp
        · rw [hgn k hk, I.mem k]
          simp [hk]
      · rw [e, byKey_append, byKey_congr (M := L) (fun k hk => hgn k (fun e2 => hnew (e2 ▸ hk))), I.all]
        have h0 : getL L x.1 = [] := by
          cases hg : getL L x.1 with
          | nil => rfl
          | cons a l => exact absurd ((I.mem x.1).2 (by rw [hg]; simp)) hnew
        unfold byKey
        rw [List.flatMap_cons, hgy, h0]
        simp
      · rw [e]
        simp at hy ⊢
        exact congrArg Prod.fst hy
    · have e : keysL (L ++ [x]) = keysL L := by rw [keysL_snoc, if_neg hc]
      have hne : keysL L ≠ [] := fun h0 => hc (Or.inl (by rw [h0]; rfl))
      obtain ⟨K, k, hK⟩ : ∃ K k, keysL L = K ++ [k] := ⟨_, _, (List.dropLast_concat_getLast hne).symm⟩
      have hkx : k = x.1 := by
        refine Classical.byContradiction fun h0 => hc (Or.inr ?_)
        rw [hK, txt_last]
        exact h0
      subst hkx
      have hr := I.rising
      rw [hK] at hr
      obtain ⟨_, _, hr2⟩ := List.pairwise_append.1 hr
      have hnk : ∀ a ∈ K, a ≠ x.1 := fun a ha e2 => kl_irrefl _ (e2 ▸ hr2 a ha x.1 (by simp))
      refine ⟨by rw [e]; exact I.rising, fun a => ?_, ?_, fun y hy => ?_⟩
      · rw [e]
        by_cases hk : a = x.1
        · subst hk
          rw [hgy, hK]
          simp
        · rw [hgn a hk, I.mem a]
      · have hall := I.all
        rw [e, hK, byKey_append, byKey_congr (M := L) (fun a ha => hgn a (hnk a ha))]
        rw [hK, byKey_append] at hall
        unfold byKey at hall ⊢
        simp only [List.flatMap_cons, List.flatMap_nil, List.append_nil] at hall ⊢
        rw [hgy, List.map_append, ← List.append_assoc, hall]
        rfl
      · rw [e, hK]
        simp at hy ⊢
        exact congrArg Prod.fst hy
/-- As many as all keys have together. -/
theorem keys_sum {L : List Kep} (h : SortedK L) : ((keysL L).map fun k => (getL L k).length).sum = L.length := by
  have e := congrArg List.length (keysOk L h).all
  unfold byKey at e
  rw [List.length_flatMap] at e
  simpa using e
theorem keysL_nodup {L : List Kep} (h : SortedK L) : (keysL L).Nodup := by
  have hr := (keysOk L h).rising
  unfold List.Nodup
  refine hr.imp ?_
  intro a b h1 e
  subst e
  exact kl_irrefl _ h1
theorem keysL_le (L : List Kep) : (keysL L).length ≤ L.length := keysTo_le L _
/-! what is put -/
/-- Where a version goes among those of its key. -/
def placeV (l : List Ver) (t : Int × Int) : Nat := l.findIdx fun x => !lessB (tagOf x) t
theorem findIdx_split {α : Type} {p : α → Bool} {A B : List α} (hA : ∀ x ∈ A, p x = false) (hB : ∀ x ∈ B, p x = true) : (A ++ B).findIdx p = A.length := by
  rw [List.findIdx_append, List.findIdx_eq_length.2 hA]
  cases B with
  | nil => simp
  | cons b B => simp [List.findIdx_cons, hB b (by simp)]
theorem place_take {L : List Kep} {key : ByteArray} {v : Ver} : ∀ x ∈ L.take (placeN L key v), beforeB x key v = true := fun x hx => by
  obtain ⟨j, hj, rfl⟩ := List.getElem_of_mem hx
  have hj' : j < placeN L key v := by rw [List.length_take] at hj; omega
  have := placeN_before hj'
  rw [List.getElem_take]
  have hl : j < L.length := Nat.lt_of_lt_of_le hj' (placeN_le L key v)
  have e := kepAt_get hl
  rw [List.getElem?_eq_getElem hl] at e
  rw [Option.some.inj e]
  exact this
theorem place_drop {L : List Kep} (h : SortedK L) {key : ByteArray} {v : Ver} : ∀ x ∈ L.drop (placeN L key v), beforeB x key v = false := fun x hx => by
  obtain ⟨j, hj, rfl⟩ := List.getElem_of_mem hx
  rw [List.length_drop] at hj
  have hp : placeN L key v < L.length := by omega
  have h0 := placeN_here hp
  rw [List.getElem_drop]
  have e0 := kepAt_get hp
  rw [List.getElem?_eq_getElem hp] at e0
  rw [← Option.some.inj e0] at h0
  cases j with
  | zero => exact h0
  | succ j =>
    have hb := List.pairwise_iff_getElem.1 h (placeN L key v) (placeN L key v + (j + 1)) hp (by omega) (by omega)
    cases hx : beforeB (L[placeN L key v + (j + 1)]'(by omega)) key v
    · rfl
    · rw [before_trans (z := (key, v)) hb hx] at h0
      cases h0
theorem getL_split (L : List Kep) (key : ByteArray) (v : Ver) : getL L key = getL (L.take (placeN L key v)) key ++ getL (L.drop (placeN L key v)) key := by
  rw [← getL_append, List.take_append_drop]
theorem placeV_eq {L : List Kep} (h : SortedK L) (key : ByteArray) (v : Ver) : placeV (getL L key) (tagOf v) = (getL (L.take (placeN L key v)) key).length := by
  unfold placeV
  rw [getL_split L key v]
  refine findIdx_split (fun x hx => ?_) (fun x hx => ?_)
  · rcases before_iff.1 (place_take _ (mem_getL.1 hx)) with h1 | ⟨_, h1⟩
    · exact absurd h1 (kl_irrefl _)
    · rw [h1]; rfl
  · have h1 := place_drop h _ (mem_getL.1 hx)
    cases hl : lessB (tagOf x) (tagOf v)
    · rfl
    · rw [before_iff.2 (Or.inr ⟨rfl, hl⟩)] at h1
      cases h1
theorem getL_putL {L : List Kep} (h : SortedK L) (key : ByteArray) (v : Ver) : getL (putL L key v) key = (getL L key).take (placeV (getL L key) (tagOf v)) ++ [v] ++ (getL L key).drop (placeV (getL L key) (tagOf v)) := by
  rw [placeV_eq h]
  unfold putL
  rw [getL_append, getL_append, getL_one_yes rfl]
  have e := getL_split L key v
  rw [e, List.take_left, List.drop_left]
theorem getL_putL_other (L : List Kep) {key k : ByteArray} (v : Ver) (hk : k ≠ key) : getL (putL L key v) k = getL L k := by
  unfold putL
  rw [getL_append, getL_append, getL_one_no (Ne.symm hk), List.append_nil, ← getL_append, List.take_append_drop]
theorem mem_putL {L : List Kep} {key : ByteArray} {v : Ver} {x : Kep} : x ∈ putL L key v ↔ x ∈ L ∨ x = (key, v) := by
  unfold putL
  rw [List.mem_append, List.mem_append, List.mem_singleton]
  conv => rhs; rw [← List.take_append_drop (placeN L key v) L, List.mem_append]
  constructor
  · rintro ((h | h) | h) <;> simp [h]
  · rintro ((h | h) | h) <;> simp [h]
theorem putL_length (L : List Kep) (key : ByteArray) (v : Ver) : (putL L key v).length = L.length + 1 := by
  unfold putL
  have := placeN_le L key v
  simp
  omega
theorem putL_sorted {L : List Kep} (h : SortedK L) {key : ByteArray} {v : Ver} (hn : ∀ x ∈ getL L key, tagOf x ≠ tagOf v) : SortedK (putL L key v) := by
  have hs := h
  rw [← List.take_append_drop (placeN L key v) L] at hs
  unfold SortedK at hs
  obtain ⟨h1, h2, h3⟩ := List.pairwise_append.1 hs
  unfold putL SortedK
  refine List.pairwise_append.2 ⟨List.pairwise_append.2 ⟨h1, List.pairwise_singleton _ _, fun a ha b hb => ?_⟩, h2, fun a ha b hb => ?_⟩
  · rw [List.mem_singleton.1 hb]
    exact place_take a ha
  · rcases List.mem_append.1 ha with ha | ha
    · exact h3 a ha b hb
    · rw [List.mem_singleton.1 ha]
      have hb0 := place_drop h b hb
      have hne : ¬ ((key, v).1 = b.1 ∧ tagOf (key, v).2 = tagOf b.2) := fun e => by
        obtain ⟨e1, e2⟩ := e
        have hbL : b ∈ L := List.mem_of_mem_drop hb
        refine hn b.2 (mem_getL.2 ?_) e2.symm
        have e3 : b = (key, b.2) := by
          obtain ⟨b1, b2⟩ := b
          simp only at e1
          rw [e1]
        rw [← e3]
        exact hbL
      rcases before_total hne with h4 | h4
      · exact h4
      · have h5 : beforeB b key v = true := h4
        rw [hb0] at h5
        cases h5
/-- Is one there with this tag? -/
theorem putScan_none {L : List Kep} {key : ByteArray} {v : Ver} (hn : ∀ x ∈ getL L key, tagOf x ≠ tagOf v) : ∀ m i, i + m = L.length → putScan L key v i m = if 60 ≤ L.length then 7 else 0
  | 0, _, _ => rfl
  | m + 1, i, h => by
    have hi : i < L.length := by omega
    have hs : sameTag (kepAt L i) key v = false := by
      cases hc : sameTag (kepAt L i) key v
      · rfl
      · unfold sameTag at hc
        simp only [Bool.and_eq_true, decide_eq_true_eq] at hc
        refine absurd ?_ (hn (kepAt L i).2 (mem_getL.2 ?_))
        · unfold tagOf; rw [hc.1.2, hc.2]
        · rw [← hc.1.1]; exact List.mem_of_getElem? (kepAt_get hi)
    show (if _ then _ else _) = _
    rw [hs]
    exact putScan_none hn m (i + 1) (by omega)
theorem tag_inj {L : List Kep} (h : SortedK L) {key : ByteArray} {x y : Ver} (hx : x ∈ getL L key) (hy : y ∈ getL L key) (e : tagOf x = tagOf y) : x = y := by
  have hs := getL_sorted h key
  obtain ⟨i, hi, rfl⟩ := List.getElem_of_mem hx
  obtain ⟨j, hj, rfl⟩ := List.getElem_of_mem hy
  rcases Nat.lt_trichotomy i j with h1 | h1 | h1
  · have := List.pairwise_iff_getElem.1 hs i j hi hj h1
    rw [e, lessB_irrefl] at this
    cases this
  · subst h1; rfl
  · have := List.pairwise_iff_getElem.1 hs j i hj hi h1
    rw [e, lessB_irrefl] at this
    cases this
theorem putScan_some {L : List Kep} (h : SortedK L) {key : ByteArray} {v x : Ver} (hx : x ∈ getL L key) (ht : tagOf x = tagOf v) : ∀ m i, i + m = L.length → (∃ j, i ≤ j ∧ j < L.length ∧ kepAt L j = (key, x)) → putScan L key v i m = if x = v then -1 else 6
  | 0, i, hm, ⟨j, h1, h2, _⟩ => by omega
  | m + 1, i, hm, ⟨j, h1, h2, h3⟩ => by
    have hi : i < L.length := by omega
    show (if _ then _ else _) = _
    by_cases hc : sameTag (kepAt L i) key v = true
    · rw [if_pos hc]
      unfold sameTag at hc
      simp only [Bool.and_eq_true, decide_eq_true_eq] at hc
      have e : (kepAt L i).2 = x := by
        refine tag_inj h (key := key) (mem_getL.2 ?_) hx ?_
        · rw [← hc.1.1]; exact List.mem_of_getElem? (kepAt_get hi)
        · rw [ht]; unfold tagOf; rw [hc.1.2, hc.2]
      rw [e]
    · rw [if_neg hc]
      have hne : i ≠ j := fun e => by
        subst e
        refine hc ?_
        rw [h3]
        unfold tagOf at ht
        unfold sameTag
        simp only [Prod.mk.injEq] at ht
        simp [ht.1, ht.2]
      exact putScan_some h hx ht m (i + 1) (by omega) ⟨j, by omega, h2, h3⟩
theorem putScan_there {L : List Kep} (h : SortedK L) {key : ByteArray} {v x : Ver} (hx : x ∈ getL L key) (ht : tagOf x = tagOf v) : putScan L key v 0 L.length = if x = v then -1 else 6 := by
  obtain ⟨j, hj⟩ := List.getElem?_of_mem (mem_getL.1 hx)
  have hl : j < L.length := (List.getElem?_eq_some_iff.1 hj).1
  refine putScan_some h hx ht L.length 0 (by omega) ⟨j, Nat.zero_le _, hl, ?_⟩
  have := kepAt_get hl
  rw [hj] at this
  exact (Option.some.inj this).symm
/-! what is trimmed -/
theorem trimGo_zero (key : ByteArray) : ∀ L : List Kep, trimGo key 0 L = L
  | [] => rfl
  | x :: L => by
    show (if _ then _ else _) = _
    rw [if_neg (by simp), trimGo_zero key L]
theorem trimGo_sub (key : ByteArray) : ∀ (L : List Kep) (n : Nat), (trimGo key n L).Sublist L
  | [], _ => List.Sublist.refl _
  | x :: L, n => by
    show (if _ then _ else _ : List Kep).Sublist _
    split
    · exact (trimGo_sub key L (n - 1)).cons _
    · exact (trimGo_sub key L n).cons_cons _
theorem getL_cons (x : Kep) (L : List Kep) (key : ByteArray) : getL (x :: L) key = getL [x] key ++ getL L key := getL_append [x] L key
theorem getL_trim (key : ByteArray) : ∀ (L : List Kep) (n : Nat), getL (trimGo key n L) key = (getL L key).drop n
  | [], n => by show getL [] key = _; simp [getL]
  | x :: L, n => by
    show getL (if _ then _ else _) key = _
    split
    · rename_i hc
      rw [getL_trim key L (n - 1), getL_cons x L, getL_one_yes hc.1]
      obtain ⟨m, rfl⟩ : ∃ m, n = m + 1 := ⟨n - 1, by omega⟩
      rfl
    · rename_i hc
      rw [getL_cons x L, getL_cons x (trimGo key n L), getL_trim key L n]
      by_cases hx : x.1 = key
      · have : n = 0 := by
          refine Classical.byContradiction fun h => hc ⟨hx, by omega⟩
        subst this
        simp
      · rw [getL_one_no hx]; rfl
theorem getL_trim_other {key k : ByteArray} (hk : k ≠ key) : ∀ (L : List Kep) (n : Nat), getL (trimGo key n L) k = getL L k
  | [], _ => rfl
  | x :: L, n => by
    show getL (if _ then _ else _) k = _
    split
    · rename_i hc
      rw [getL_trim_other hk L (n - 1), getL_cons x L, getL_one_no (by rw [hc.1]; exact Ne.symm hk)]
      rfl
    · rw [getL_cons x L, getL_cons x (trimGo key n L), getL_trim_other hk L n]
theorem trimL_sorted {L : List Kep} (h : SortedK L) (key : ByteArray) (n : Nat) : SortedK (trimGo key n L) := List.Pairwise.sublist (trimGo_sub key L n) h
set_option maxRecDepth 10000 in
set_option maxHeartbeats 1000000 in
theorem sign_any (r : Nat) (W : World) : Calls Tryz.prog 61 #[.int .i32 (r : Int)] W fun e w' => e = .returned (.bool (!letterB r)) ∧ w' = W := by
  have key : ∀ b, letterB r = b → Hid ((!letterB r) = (!b)) := fun b h => by show _ = _; rw [h]
  rcases (show (97 ≤ r ∧ r ≤ 122) ∨ (48 ≤ r ∧ r ≤ 57) ∨ r = 45 ∨ 122 < r ∨ (57 < r ∧ r < 97) ∨ (r < 48 ∧ r ≠ 45) by omega) with hc | hc | hc | hc | hc | hc
  · have HL := key true (by simp [letterB, hc])
    obtain ⟨hc1, hc2⟩ := hc
    have d1 : decide ((r : Int) < 97) = false := decide_eq_false (by omega)
    have d2 : decide (122 < (r : Int)) = false := decide_eq_false (by omega)
    rw [HL.out]
    clear key
    go_enter Tryz.func61, Tryz.ntmps61
    go_wp2
    go_ret
    exact ⟨rfl, rfl⟩
  · have HL := key true (by simp [letterB, hc])
    obtain ⟨hc1, hc2⟩ := hc
    have d1 : decide ((r : Int) < 97) = true := decide_eq_true (by omega)
    have d3 : decide ((r : Int) < 48) = false := decide_eq_false (by omega)
    have d4 : decide (57 < (r : Int)) = false := decide_eq_false (by omega)
    rw [HL.out]
    clear key
    go_enter Tryz.func61, Tryz.ntmps61
    go_wp2
    go_ret
    exact ⟨rfl, rfl⟩
  · have HL := key true (by simp [letterB, hc])
    subst hc
    rw [HL.out]
    clear key
    go_enter Tryz.func61, Tryz.ntmps61
    go_wp2
    go_ret
    exact ⟨rfl, rfl⟩
  · have HL := key false (by unfold letterB; rw [decide_eq_false (by omega), decide_eq_false (by omega), decide_eq_false (by omega)]; rfl)
    have d1 : decide ((r : Int) < 97) = false := decide_eq_false (by omega)
    have d2 : decide (122 < (r : Int)) = true := decide_eq_true (by omega)
    have d3 : decide ((r : Int) < 48) = false := decide_eq_false (by omega)
    have d4 : decide (57 < (r : Int)) = true := decide_eq_true (by omega)
    have d5 : ((r : Int) != 45) = true := by rw [bne_iff_ne]; omega
    have d6 : ((r : Int) == 45) = false := by rw [beq_eq_false_iff_ne]; omega
    rw [HL.out]
    clear key
    go_enter Tryz.func61, Tryz.ntmps61
    go_wp2
    go_ret
    exact ⟨rfl, rfl⟩
  · have HL := key false (by unfold letterB; rw [decide_eq_false (by omega), decide_eq_false (by omega), decide_eq_false (by omega)]; rfl)
    obtain ⟨hc1, hc2⟩ := hc
    have d1 : decide ((r : Int) < 97) = true := decide_eq_true (by omega)
    have d3 : decide ((r : Int) < 48) = false := decide_eq_false (by omega)
    have d4 : decide (57 < (r : Int)) = true := decide_eq_true (by omega)
    have d5 : ((r : Int) != 45) = true := by rw [bne_iff_ne]; omega
    have d6 : ((r : Int) == 45) = false := by rw [beq_eq_false_iff_ne]; omega
    rw [HL.out]
    clear key
    go_enter Tryz.func61, Tryz.ntmps61
    go_wp2
    go_ret
    exact ⟨rfl, rfl⟩
  · have HL := key false (by unfold letterB; rw [decide_eq_false (by omega), decide_eq_false (by omega), decide_eq_false (by omega)]; rfl)
    obtain ⟨hc1, hc2⟩ := hc
    have d1 : decide ((r : Int) < 97) = true := decide_eq_true (by omega)
    have d3 : decide ((r : Int) < 48) = true := decide_eq_true (by omega)
    have d5 : ((r : Int) != 45) = true := by rw [bne_iff_ne]; omega
    have d6 : ((r : Int) == 45) = false := by rw [beq_eq_false_iff_ne]; omega
    rw [HL.out]
    clear key
    go_enter Tryz.func61, Tryz.ntmps61
    go_wp2
    go_ret
    exact ⟨rfl, rfl⟩
/-- From place i on: a sign that no name has is found just where there is such a byte. -/
theorem idxFrom (s : ByteArray) : ∀ (f i : Nat), s.size ≤ i + f → (decide (0 ≤ Lib.idxFuncFrom (fun r => !letterB r) true s f i) = true ↔ ∃ j, i ≤ j ∧ j < s.size ∧ letterB (Gf.nth (bytesOf s) j) = false)
  | 0, i, h => by
    constructor
    · intro h1
      have h2 : decide ((0 : Int) ≤ -1) = true := h1
      cases h2
    · rintro ⟨j, h1, h2, _⟩
      omega
  | f + 1, i, h => by
    show decide (0 ≤ (if i < s.size then (if (!letterB (Utf8.decode s i).1) = true then (i : Int) else Lib.idxFuncFrom (fun r => !letterB r) true s f (i + (Utf8.decode s i).2)) else -1)) = true ↔ _
    by_cases hi : i < s.size
    · rw [if_pos hi]
      by_cases ha : (s[i]'hi).toNat < 128
      · rw [decode_ascii s i hi ha, ← bytesOf_nth s i hi]
        have ih := idxFrom s f (i + 1) (by omega)
        cases hl : letterB (Gf.nth (bytesOf s) i) with
        | false =>
          rw [if_pos (by rfl)]
          exact ⟨fun _ => ⟨i, Nat.le_refl _, hi, hl⟩, fun _ => decide_eq_true (by omega)⟩
        | true =>
          rw [if_neg (by simp), ih]
          constructor
          · rintro ⟨j, h1, h2, h3⟩
            exact ⟨j, by omega, h2, h3⟩
          · rintro ⟨j, h1, h2, h3⟩
            refine ⟨j, ?_, h2, h3⟩
            by_cases e : j = i
            · rw [e, hl] at h3; cases h3
            · omega
      · have h1 := (decode_high s i hi (by omega)).1
        have hl : letterB (Utf8.decode s i).1 = false := by
          unfold letterB
          rw [decide_eq_false (by omega), decide_eq_false (by omega), decide_eq_false (by omega)]
          rfl
        have hl2 : letterB (Gf.nth (bytesOf s) i) = false := by
          rw [bytesOf_nth s i hi]
          unfold letterB
          rw [decide_eq_false (by omega), decide_eq_false (by omega), decide_eq_false (by omega)]
          rfl
        rw [hl, if_pos (by rfl)]
        exact ⟨fun _ => ⟨i, Nat.le_refl _, hi, hl2⟩, fun _ => decide_eq_true (by omega)⟩
    · rw [if_neg hi]
      constructor
      · intro h1
        cases h1
      · rintro ⟨j, h1, h2, _⟩
        omega
theorem idxOf (s : ByteArray) : decide (0 ≤ Lib.idxFunc (fun r => !letterB r) true s) = !((bytesOf s).all letterB) := by
  have h := idxFrom s s.size 0 (by omega)
  cases ha : (bytesOf s).all letterB with
  | true =>
    rw [show (!true) = false from rfl, Bool.eq_false_iff]
    intro h1
    obtain ⟨j, _, hj, h3⟩ := h.1 h1
    have hj' : j < (bytesOf s).length := by rw [bytesOf_length]; exact hj
    rw [List.all_eq_true] at ha
    have := ha (Gf.nth (bytesOf s) j) (by rw [Gf.nth_getElem _ j hj']; exact List.getElem_mem hj')
    rw [h3] at this
    cases this
  | false =>
    obtain ⟨x, hx, hne⟩ := List.all_eq_false.1 ha
    obtain ⟨j, hj, rfl⟩ := List.getElem_of_mem hx
    refine h.2 ⟨j, Nat.zero_le _, by rw [bytesOf_length] at hj; exact hj, ?_⟩
    rw [Gf.nth_getElem _ j hj]
    exact Bool.eq_false_iff.2 hne
set_option maxRecDepth 10000 in
set_option maxHeartbeats 1000000 in
theorem pname_any (s : ByteArray) (w : World) : Calls Tryz.prog 36 #[.string s] w fun e w' => e = .returned (.bool (isN s)) ∧ Below w.heap.size w w' := by
  by_cases h1 : s.size < 1
  · have HE : Hid (isN s = false) := isN_len (by omega)
    have d1 : decide (1 ≤ (s.size : Int)) = false := decide_eq_false (by omega)
    rw [HE.out]
    go_enter Tryz.func36, Tryz.ntmps36
    go_wp2
    go_ret
    exact ⟨rfl, Below.refl _ _⟩
  have d1 : decide (1 ≤ (s.size : Int)) = true := decide_eq_true (by omega)
  by_cases h2 : 16 < s.size
  · have HE : Hid (isN s = false) := isN_len (by omega)
    have d2 : decide ((s.size : Int) ≤ 16) = false := decide_eq_false (by omega)
    rw [HE.out]
    go_enter Tryz.func36, Tryz.ntmps36
    go_wp2
    go_ret
    exact ⟨rfl, Below.refl _ _⟩
  have d2 : decide ((s.size : Int) ≤ 16) = true := decide_eq_true (by omega)
  have HC := Tryz.strings_ContainsFunc 61 #[] (enters_of Tryz.func61 (by kernel_rfl) rfl) (fun r => !letterB r) s w (fun W r _ => by
    unfold FnGives
    exact (sign_any r W).mono fun _ _ ⟨he, hw⟩ => ⟨he, 0, hw⟩)
  rw [idxOf] at HC
  have HE : Hid (isN s = (bytesOf s).all letterB) := by show _ = _; unfold isN; rw [decide_eq_true ⟨by omega, by omega⟩, Bool.true_and]
  rw [HE.out]
  generalize (bytesOf s).all letterB = r at *
  clear HE
  go_enter Tryz.func36, Tryz.ntmps36
  go_wp2_with fail
  refine HC.mono ?_
  rintro e w1 ⟨rfl, hb1⟩
  clear HC
  cases r with
  | true =>
    go_wp2
    go_ret
    exact ⟨rfl, hb1⟩
  | false =>
    go_wp2
    go_ret
    exact ⟨rfl, hb1⟩
end Go.Proofs.YtmbpfbhpmafheaaGreatDoor
