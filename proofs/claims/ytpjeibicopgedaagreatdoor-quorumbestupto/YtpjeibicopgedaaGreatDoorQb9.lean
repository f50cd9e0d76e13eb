/- Texts laid together. -/
import Derived.Test.YtpjeibicopgedaaGreatDoorQb8
import Derived.DeepKeys4
import Derived.Maps.RangeWalk
import Derived.Maps.OwnOps
import Derived.Maps.OwnSet
namespace Go.Proofs.YtpjeibicopgedaaGreatDoor
open Go.RowKit
/-- What holds of a size and shards of it. -/
structure ShFine (n k : Nat) (S : Int × List (Int × ByteArray)) : Prop where
  some_ : S.2 = [] ∨ 0 ≤ S.1
  le : S.1 ≤ 1000
  each : ∀ x ∈ S.2, 0 ≤ x.1 ∧ x.1 < n ∧ x.2.size = wideN k S.1.toNat
  one : (S.2.map Prod.fst).Nodup
theorem shStep_fine {n k : Nat} {t : Int × Int} {S : Int × List (Int × ByteArray)} (v : Ver) (h : ShFine n k S) : ShFine n k (shStep n k t S v) := by
  by_cases hy : v.n = t.1 ∧ v.who = t.2 ∧ canB n k v = true
  · have hc := hy.2.2
    unfold canB at hc
    rw [Bool.and_eq_true] at hc
    obtain ⟨c1, c2, c3, c4, c5⟩ := of_decide_eq_true hc.2
    by_cases hz : S.1 < 0
    · have h0 : S.2 = [] := by
        rcases h.some_ with e | e
        · exact e
        · omega
      rw [shStep_yes (z := v.size) hy (by rw [if_pos hz]), h0]
      refine ⟨Or.inr c1, c2, fun x hx => ?_, ?_⟩
      · simp at hx
        subst hx
        exact ⟨c3, c4, c5⟩
      · simp
    · rw [shStep_yes (z := S.1) hy (by rw [if_neg hz])]
      by_cases hq : v.size = S.1 ∧ S.2.any (fun y => y.1 == v.at_) = false
      · rw [if_pos hq]
        refine ⟨Or.inr (by show 0 ≤ S.1; omega), h.le, fun x hx => ?_, ?_⟩
        · rcases List.mem_append.1 hx with e | e
          · exact h.each x e
          · simp at e
            subst e
            exact ⟨c3, c4, by show v.text.size = wideN k S.1.toNat; rw [← hq.1]; exact c5⟩
        · show ((S.2 ++ [(v.at_, v.text)]).map Prod.fst).Nodup
          rw [List.map_append]
          refine List.nodup_append.2 ⟨h.one, by simp, fun a ha b hb e => ?_⟩
          simp at hb
          subst hb e
          obtain ⟨y, hy1, hy2⟩ := List.mem_map.1 ha
          have := List.any_eq_false.1 hq.2 y hy1
          exact this (by simp [hy2])
      · rw [if_neg hq]
        exact ⟨h.some_, h.le, h.each, h.one⟩
  · rw [shStep_no hy]
    exact h
theorem shOf_fine (n k : Nat) (t : Int × Int) (L : List Ver) : ShFine n k (shOf n k t L) := by
  have go : ∀ (L : List Ver) (S : Int × List (Int × ByteArray)), ShFine n k S → ShFine n k (L.foldl (shStep n k t) S) := by
    intro L
    induction L with
    | nil => intro S h; exact h
    | cons v L ih => intro S h; exact ih _ (shStep_fine v h)
  exact go L _ ⟨Or.inl rfl, by show (-1 : Int) ≤ 1000; decide, fun x hx => (by cases hx), List.nodup_nil⟩
theorem pickN_take (k : Nat) (l : List (Int × ByteArray)) (hd : (l.map Prod.fst).Nodup) : ∀ i, i ≤ l.length → pickN k l i = l.take (min k i)
  | 0, _ => by simp [pickN]
  | i + 1, hi => by
    have ih := pickN_take k l hd i (by omega)
    have hsh : shAt l i = l[i] := by
      unfold shAt
      rw [List.getD_eq_getElem?_getD, List.getElem?_eq_getElem (by omega)]
      rfl
    by_cases hk : i < k
    · have e1 : min k i = i := by omega
      have e2 : min k (i + 1) = i + 1 := by omega
      rw [e1] at ih
      rw [e2, pickN_yes (by rw [ih, List.length_take]; omega) (by
        rw [ih, List.any_eq_false]
        intro y hy hyx
        obtain ⟨j, hj, hjy⟩ := List.mem_take_iff_getElem.1 hy
        have hji : j < i := by omega
        have e : l[j].1 = l[i].1 := by rw [hjy, ← hsh]; simpa using hyx
        have := (List.getElem_inj (h₀ := by rw [List.length_map]; omega) (h₁ := by rw [List.length_map]; omega) hd).1 (show (l.map Prod.fst)[j]'(by rw [List.length_map]; omega) = (l.map Prod.fst)[i]'(by rw [List.length_map]; omega) by rw [List.getElem_map, List.getElem_map]; exact e)
        omega), ih, hsh]
      exact (List.take_succ_eq_append_getElem (by omega)).symm
    · have e1 : min k i = k := by omega
      have e2 : min k (i + 1) = k := by omega
      rw [e1] at ih
      rw [e2, pickN_full (by rw [ih, List.length_take]; omega), ih]
/-- Shards enough: they decode. -/
theorem shOf_fits {n k : Nat} {t : Int × Int} {L : List Ver} (hk1 : 1 ≤ k) (h : ¬ (shOf n k t L).2.length < k) : (((shOf n k t L).1.toNat : Nat) : Int) = (shOf n k t L).1 ∧ (shOf n k t L).1.toNat ≤ 1000 ∧ Fits n k (shOf n k t L).1.toNat (shOf n k t L).2 ∧ ∀ i, (shAt (shOf n k t L).2 i).2.size ≤ 100000 := by
  have hf := shOf_fine n k t L
  generalize shOf n k t L = S at *
  have h0 : 0 ≤ S.1 := by
    rcases hf.some_ with e | e
    · rw [e] at h; simp at h; omega
    · exact e
  have hle := hf.le
  have hwd := wideN_le (size := S.1.toNat) hk1
  refine ⟨by omega, by omega, ⟨?_, ?_⟩, fun i => ?_⟩
  · rw [List.any_eq_false]
    intro x hx hb
    obtain ⟨a1, a2, a3⟩ := hf.each x hx
    unfold badB at hb
    simp only [Bool.or_eq_true, decide_eq_true_eq, Bool.not_eq_true', decide_eq_false_iff_not] at hb
    omega
  · rw [pickN_take k S.2 hf.one _ (Nat.le_refl _), List.length_take]
    omega
  · by_cases hi : i < S.2.length
    · have e : shAt S.2 i = S.2[i] := by
        unfold shAt
        rw [List.getD_eq_getElem?_getD, List.getElem?_eq_getElem hi]
        rfl
      have := (hf.each _ (List.getElem_mem hi)).2.2
      rw [e, this]
      omega
    · unfold shAt
      rw [List.getD_eq_getElem?_getD, List.getElem?_eq_none (by omega)]
      show (0 : Nat) ≤ _
      omega
/-- The next version, behind a tag, a text, and whether there is one. -/
def bestStep (n k : Nat) (all : List Ver) (S : (Int × Int) × ByteArray × Bool) (v : Ver) : (Int × Int) × ByteArray × Bool :=
  if S.2.2 = true ∧ lessB S.1 (v.n, v.who) = false then S
  else if (shOf n k (v.n, v.who) all).2.length < k then S
  else ((v.n, v.who), decT k (shOf n k (v.n, v.who) all).1.toNat (pickN k (shOf n k (v.n, v.who) all).2 (shOf n k (v.n, v.who) all).2.length), true)
/-- The best of versions. -/
def bestF (n k : Nat) (all L : List Ver) : (Int × Int) × ByteArray × Bool := L.foldl (bestStep n k all) ((0, 0), ⟨#[]⟩, false)
theorem bestF_succ {n k : Nat} {all L : List Ver} {i : Nat} (hi : i < L.length) : bestF n k all (L.take (i + 1)) = bestStep n k all (bestF n k all (L.take i)) (verAt L i) := by
  unfold bestF
  rw [List.take_add_one, verAt_get hi, List.foldl_append]
  rfl
theorem bestStep_old {n k : Nat} {all : List Ver} {S : (Int × Int) × ByteArray × Bool} {v : Ver} (h : S.2.2 = true ∧ lessB S.1 (v.n, v.who) = false) : bestStep n k all S v = S := if_pos h
theorem bestStep_few {n k : Nat} {all : List Ver} {S : (Int × Int) × ByteArray × Bool} {v : Ver} (h : ¬ (S.2.2 = true ∧ lessB S.1 (v.n, v.who) = false)) (h2 : (shOf n k (v.n, v.who) all).2.length < k) : bestStep n k all S v = S := by unfold bestStep; rw [if_neg h, if_pos h2]
theorem bestStep_new {n k : Nat} {all : List Ver} {S : (Int × Int) × ByteArray × Bool} {v : Ver} (h : ¬ (S.2.2 = true ∧ lessB S.1 (v.n, v.who) = false)) (h2 : ¬ (shOf n k (v.n, v.who) all).2.length < k) : bestStep n k all S v = ((v.n, v.who), decT k (shOf n k (v.n, v.who) all).1.toNat (pickN k (shOf n k (v.n, v.who) all).2 (shOf n k (v.n, v.who) all).2.length), true) := by unfold bestStep; rw [if_neg h, if_neg h2]
theorem less_iff {a b : Int × Int} : lessB a b = true ↔ a.1 < b.1 ∨ a.1 = b.1 ∧ a.2 < b.2 := by simp [lessB]
theorem less_trans {a b c : Int × Int} (h1 : lessB a b = true) (h2 : lessB b c = true) : lessB a c = true := by
  rw [less_iff] at *
  omega
theorem less_eq {a b : Int × Int} (h1 : lessB a b = false) (h2 : lessB b a = false) : a = b := by
  have n1 : ¬ (a.1 < b.1 ∨ a.1 = b.1 ∧ a.2 < b.2) := fun h => by rw [less_iff.2 h] at h1; cases h1
  have n2 : ¬ (b.1 < a.1 ∨ b.1 = a.1 ∧ b.2 < a.2) := fun h => by rw [less_iff.2 h] at h2; cases h2
  exact Prod.ext (by omega) (by omega)
/-- Shards enough of a tag. -/
def GoodT (n k : Nat) (all : List Ver) (t : Int × Int) : Prop := k ≤ (shOf n k t all).2.length
/-- What is decoded of a tag. -/
def decOf (n k : Nat) (all : List Ver) (t : Int × Int) : ByteArray := decT k (shOf n k t all).1.toNat (pickN k (shOf n k t all).2 (shOf n k t all).2.length)
/-- Who has shards was told. -/
theorem shOf_told {n k : Nat} {t : Int × Int} : ∀ (L : List Ver) (S : Int × List (Int × ByteArray)), (∀ v ∈ L, (v.n, v.who) ≠ t) → L.foldl (shStep n k t) S = S
  | [], _, _ => rfl
  | v :: L, S, h => by
    rw [List.foldl_cons, shStep_no (fun hh => h v (by simp) (Prod.ext hh.1 hh.2.1))]
    exact shOf_told L S fun u hu => h u (by simp [hu])
theorem good_told {n k : Nat} {all : List Ver} {t : Int × Int} (hk : 1 ≤ k) (h : GoodT n k all t) : ∃ v ∈ all, (v.n, v.who) = t := by
  by_cases hh : ∃ v ∈ all, (v.n, v.who) = t
  · exact hh
  · exfalso
    have e : shOf n k t all = (-1, []) := shOf_told all _ fun v hv e => hh ⟨v, hv, e⟩
    unfold GoodT at h
    rw [e] at h
    simp at h
    omega
/-- What holds behind some versions. -/
structure BestInv (n k : Nat) (all L : List Ver) (S : (Int × Int) × ByteArray × Bool) : Prop where
  no : S.2.2 = false → S = ((0, 0), ⟨#[]⟩, false) ∧ ∀ v ∈ L, ¬ GoodT n k all (v.n, v.who)
  yes : S.2.2 = true → GoodT n k all S.1 ∧ S.2.1 = decOf n k all S.1 ∧ ∀ v ∈ L, GoodT n k all (v.n, v.who) → lessB S.1 (v.n, v.who) = false
theorem bestInv_step {n k : Nat} {all L : List Ver} {S : (Int × Int) × ByteArray × Bool} (v : Ver) (h : BestInv n k all L S) : BestInv n k all (L ++ [v]) (bestStep n k all S v) := by
  by_cases h1 : S.2.2 = true ∧ lessB S.1 (v.n, v.who) = false
  · rw [bestStep_old h1]
    refine ⟨fun h2 => (by rw [h1.1] at h2; cases h2), fun h2 => ⟨(h.yes h2).1, (h.yes h2).2.1, fun u hu hg => ?_⟩⟩
    rcases List.mem_append.1 hu with e | e
    · exact (h.yes h2).2.2 u e hg
    · rw [List.mem_singleton.1 e]; exact h1.2
  · by_cases h2 : (shOf n k (v.n, v.who) all).2.length < k
    · rw [bestStep_few h1 h2]
      have hn : ¬ GoodT n k all (v.n, v.who) := by unfold GoodT; omega
      refine ⟨fun h3 => ⟨(h.no h3).1, fun u hu => ?_⟩, fun h3 => ⟨(h.yes h3).1, (h.yes h3).2.1, fun u hu hg => ?_⟩⟩
      · rcases List.mem_append.1 hu with e | e
        · exact (h.no h3).2 u e
        · rw [List.mem_singleton.1 e]; exact hn
      · rcases List.mem_append.1 hu with e | e
        · exact (h.yes h3).2.2 u e hg
        · rw [List.mem_singleton.1 e] at hg; exact absurd hg hn
    · rw [bestStep_new h1 h2]
      have hg : GoodT n k all (v.n, v.who) := by unfold GoodT; omega
      refine ⟨fun h3 => (by cases h3), fun _ => ⟨hg, rfl, fun u hu hgu => ?_⟩⟩
      rcases List.mem_append.1 hu with e | e
      · cases hs : S.2.2 with
        | false => exact absurd hgu ((h.no hs).2 u e)
        | true =>
          have hl : lessB S.1 (v.n, v.who) = true := by
            cases hl : lessB S.1 (v.n, v.who) with
            | true => rfl
            | false => exact absurd ⟨hs, hl⟩ h1
          cases hq : lessB (v.n, v.who) (u.n, u.who) with
          | false => rfl
          | true =>
            have := (h.yes hs).2.2 u e hgu
            rw [less_trans hl hq] at this
            cases this
      · rw [List.mem_singleton.1 e]
        show lessB (v.n, v.who) (v.n, v.who) = false
        simp [lessB]
theorem bestInv (n k : Nat) (all : List Ver) : ∀ i, i ≤ all.length → BestInv n k all (all.take i) (bestF n k all (all.take i))
  | 0, _ => ⟨fun _ => ⟨rfl, fun v hv => (by simp at hv)⟩, fun h => (by cases h)⟩
  | i + 1, hi => by
    have ih := bestInv_step (verAt all i) (bestInv n k all i (by omega))
    rw [bestF_succ (by omega)]
    have e : all.take (i + 1) = all.take i ++ [verAt all i] := by rw [List.take_add_one, verAt_get (by omega)]; rfl
    rw [e]
    exact ih
theorem best_none {n k : Nat} {all : List Ver} (h : ∀ v ∈ all, ¬ GoodT n k all (v.n, v.who)) : bestF n k all all = ((0, 0), ⟨#[]⟩, false) := by
  have hi := bestInv n k all all.length (Nat.le_refl _)
  rw [List.take_length] at hi
  cases hs : (bestF n k all all).2.2 with
  | false => exact (hi.no hs).1
  | true =>
    exfalso
    obtain ⟨h1, h2, h3⟩ := hi.yes hs
    by_cases hk : 1 ≤ k
    · obtain ⟨v, hv, e⟩ := good_told hk h1
      exact h v hv (by rw [e]; exact h1)
    · cases hall : all with
      | nil => rw [hall] at hs; cases hs
      | cons v r => exact h v (by rw [hall]; simp) (by unfold GoodT; omega)
theorem best_is {n k : Nat} {all : List Ver} {t : Int × Int} (hk : 1 ≤ k) (h : GoodT n k all t) (hmax : ∀ u, GoodT n k all u → lessB t u = false) : bestF n k all all = (t, decOf n k all t, true) := by
  have hi := bestInv n k all all.length (Nat.le_refl _)
  rw [List.take_length] at hi
  obtain ⟨v, hv, e⟩ := good_told hk h
  cases hs : (bestF n k all all).2.2 with
  | false => exact absurd h (by rw [← e]; exact (hi.no hs).2 v hv)
  | true =>
    obtain ⟨h1, h2, h3⟩ := hi.yes hs
    have e1 : (bestF n k all all).1 = t := less_eq (by have := h3 v hv (by rw [e]; exact h); rw [e] at this; exact this) (hmax _ h1)
    rw [e1] at h2
    exact Prod.ext e1 (Prod.ext h2 hs)
/-- No size is told where there are no shards. -/
theorem shOf_size {n k : Nat} {t : Int × Int} (L : List Ver) : ((shOf n k t L).1 < 0 ↔ (shOf n k t L).2 = []) := by
  have go : ∀ (L : List Ver) (S : Int × List (Int × ByteArray)), (S.1 < 0 ↔ S.2 = []) → ((L.foldl (shStep n k t) S).1 < 0 ↔ (L.foldl (shStep n k t) S).2 = []) := by
    intro L
    induction L with
    | nil => intro S h; exact h
    | cons v L ih =>
      intro S h
      rw [List.foldl_cons]
      refine ih _ ?_
      by_cases hy : v.n = t.1 ∧ v.who = t.2 ∧ canB n k v = true
      · have hc := hy.2.2
        unfold canB at hc
        rw [Bool.and_eq_true] at hc
        have c1 := (of_decide_eq_true hc.2).1
        by_cases hz : S.1 < 0
        · rw [shStep_yes (z := v.size) hy (by rw [if_pos hz]), h.1 hz]
          simp
          omega
        · rw [shStep_yes (z := S.1) hy (by rw [if_neg hz])]
          have hne : S.2 ≠ [] := fun e => hz (h.2 e)
          constructor
          · intro h2; exact absurd h2 hz
          · intro h2
            dsimp only at h2
            split at h2
            · simp at h2
            · exact absurd h2 hne
      · rw [shStep_no hy]
        exact h
  exact go L _ ⟨fun _ => rfl, fun _ => by decide⟩
theorem shOf_snoc {n k : Nat} {t : Int × Int} (L : List Ver) (v : Ver) : shOf n k t (L ++ [v]) = shStep n k t (shOf n k t L) v := by
  unfold shOf
  rw [List.foldl_append]
  rfl
section
def tagV (t : Int × Int) : Value := .agg #[.int .i64 t.1, .int .i64 t.2]
/-- A tag as the map tells it. -/
def litT (t : Int × Int) : Lit := .string (keyBytes [.int .i64 t.1, .int .i64 t.2])
/-- Numbers that an int can be. -/
def TagIn (t : Int × Int) : Prop := (-9223372036854775808 ≤ t.1 ∧ t.1 ≤ 9223372036854775807) ∧ -9223372036854775808 ≤ t.2 ∧ t.2 ≤ 9223372036854775807
theorem qbLaidOut : laidOutB Tryz.prog = true := by kernel_rfl
theorem qbRow : (30 : TypeId) < Tryz.prog.types.size := of_decide_eq_true (by kernel_rfl)
theorem qbWide : (match Tryz.prog.underlying 30 with | some (.array _ _) | some (.struct _) => true | _ => false) = true := by rw [Tryz.underlying30]
set_option maxRecDepth 100000 in
theorem keyedT : Maps.Keyed Tryz.prog 30 := Maps.Keyed.of_law (deep_law_laid qbLaidOut (m := 3) (by omega) qbRow (by kernel_rfl) qbWide)
theorem qbKeyType : Tryz.prog.keyType 30 = true := by kernel_rfl
theorem qbCells : Tryz.prog.cellsOf 30 = 2 := by kernel_rfl
theorem qbCellsI : Tryz.prog.cellsOf 3 = 1 := by kernel_rfl
theorem qbSize : Tryz.prog.types.size = 197 := by kernel_rfl
theorem wf_i64 {a : Int} : (Lit.int .i64 a).wf = true ↔ -9223372036854775808 ≤ a ∧ a ≤ 9223372036854775807 := by
  simp [Lit.wf, IntKind.min, IntKind.max, IntKind.bits, IntKind.signed]
set_option maxRecDepth 100000 in
theorem lits_int (m : Nat) (c : Value) (ls : List Lit) : Tryz.prog.keyLits (m + 1) 3 [c] = some ls ↔ ∃ a, c = .int .i64 a ∧ (Lit.int .i64 a).wf = true ∧ ls = [.int .i64 a] := by
  constructor
  · intro h
    cases c <;> simp [Program.keyLits, Tryz.underlying3] at h
    obtain ⟨⟨rfl, h2⟩, rfl⟩ := h
    exact ⟨_, rfl, h2, rfl⟩
  · rintro ⟨a, rfl, h, rfl⟩
    simp [Program.keyLits, Tryz.underlying3, h]
set_option maxRecDepth 100000 in
theorem lits_tag (c0 c1 : Value) (ls : List Lit) : Tryz.prog.keyLits (Tryz.prog.types.size + 1) 30 [c0, c1] = some ls ↔ ∃ a b, c0 = .int .i64 a ∧ c1 = .int .i64 b ∧ (Lit.int .i64 a).wf = true ∧ (Lit.int .i64 b).wf = true ∧ ls = [.int .i64 a, .int .i64 b] := by
  obtain ⟨m, hm⟩ : ∃ m, Tryz.prog.types.size = m + 1 := ⟨197 - 1, by rw [qbSize]⟩
  rw [hm]
  unfold Program.keyLits
  rw [Tryz.underlying30]
  simp only [List.length_cons, List.length_nil, qbCells, qbCellsI, List.mapM_cons, List.mapM_nil, List.drop_zero, List.take_succ_cons, List.take_zero, List.drop_succ_cons]
  constructor
  · intro h
    cases h0 : Tryz.prog.keyLits (m + 1) 3 [c0] with
    | none => simp [h0] at h
    | some l0 =>
      cases h1 : Tryz.prog.keyLits (m + 1) 3 [c1] with
      | none => simp [h0, h1] at h
      | some l1 =>
        obtain ⟨a, rfl, wa, rfl⟩ := (lits_int m c0 l0).1 h0
        obtain ⟨b, rfl, wb, rfl⟩ := (lits_int m c1 l1).1 h1
        simp [h0, h1] at h
        exact ⟨a, b, rfl, rfl, wa, wb, h.symm⟩
  · rintro ⟨a, b, rfl, rfl, wa, wb, rfl⟩
    simp [(lits_int m _ _).2 ⟨a, rfl, wa, rfl⟩, (lits_int m _ _).2 ⟨b, rfl, wb, rfl⟩]
set_option maxRecDepth 100000 in
theorem keyOfT {t : Int × Int} (h : TagIn t) : keyOf Tryz.prog 30 (tagV t) = some (litT t) := by
  have hf : (tagV t).formed Tryz.prog 30 = true := by simp [tagV, Value.formed, Tryz.underlying30, qbCells]
  have hl := (lits_tag (.int .i64 t.1) (.int .i64 t.2) _).2 ⟨t.1, t.2, rfl, rfl, wf_i64.2 h.1, wf_i64.2 h.2, rfl⟩
  have hc : (tagV t).cells.toList = [.int .i64 t.1, .int .i64 t.2] := by simp [tagV, Value.cells]
  unfold keyOf
  rw [Tryz.underlying30]
  simp only [qbKeyType, hf, Bool.and_self, if_true, hc, hl]
  rfl
set_option maxRecDepth 100000 in
theorem keyOfT_inv {v : Value} {l : Lit} (h : keyOf Tryz.prog 30 v = some l) : ∃ t, v = tagV t ∧ l = litT t ∧ TagIn t := by
  unfold keyOf at h
  rw [Tryz.underlying30] at h
  simp only [qbKeyType, Bool.true_and] at h
  split at h
  · rename_i hf
    obtain ⟨ls, hls, rfl⟩ := Option.map_eq_some_iff.1 h
    cases v <;> simp [Value.formed, Tryz.underlying30, qbCells] at hf
    rename_i cs
    obtain ⟨cl⟩ := cs
    match cl, hf with
    | [c0, c1], _ =>
      have hls' : Tryz.prog.keyLits (Tryz.prog.types.size + 1) 30 [c0, c1] = some ls := by simpa [Value.cells] using hls
      obtain ⟨a, b, rfl, rfl, wa, wb, rfl⟩ := (lits_tag c0 c1 ls).1 hls'
      exact ⟨(a, b), rfl, rfl, wf_i64.1 wa, wf_i64.1 wb⟩
  · cases h
theorem litT_inj {t u : Int × Int} (ht : TagIn t) (hu : TagIn u) (h : litT t = litT u) : t = u := by
  have := keyedT.inj (keyOfT ht) (by rw [h]; exact keyOfT hu)
  unfold tagV at this
  simp at this
  exact Prod.ext this.1 this.2
theorem litT_key (t : Int × Int) : WideAt.IsKeyLit (litT t) := trivial
/-- What was told of a tag, as it lies. -/
def toldR : Value → Option (DataW Value × List MemPlace)
  | .agg ⟨[.int .i64 z, .slice p n c]⟩ => some (.held (.agg #[.int .i64 z, .slice p n c]), [])
  | _ => none
/-- A told as a value: its size, and its row's cells. -/
def toldV (x : Int × Option Addr × Nat × Nat) : Value := .agg #[.int .i64 x.1, .slice x.2.1 x.2.2.1 x.2.2.2]
theorem toldR_mk (x : Int × Option Addr × Nat × Nat) : toldR (toldV x) = some (.held (toldV x), []) := rfl
theorem toldR_inv {v : Value} {y : DataW Value × List MemPlace} (h : toldR v = some y) : ∃ x, v = toldV x ∧ y = (.held (toldV x), []) := by
  unfold toldR at h
  split at h
  · rename_i z p n c
    injection h with h
    exact ⟨(z, p, n, c), rfl, h.symm⟩
  · cases h
abbrev OwnTM (w : World) (b m : Nat) (D : DataW Value) : Prop := w.ownsMap Tryz.prog 30 toldR b m D
theorem OwnTM.same {w w' : World} {b n : Nat} {D : DataW Value} (h : OwnTM w b n D) (hb : w'.heap[b]? = w.heap[b]?) : OwnTM w' b n D := by
  obtain ⟨es, clock, h1, h2⟩ := h
  exact ⟨es, clock, hb.trans h1, h2⟩
theorem qbRanges_same {w w' : World} {b r n cnt : Nat} {D : DataW Value} {left : Lit → Bool} (h : w.ranges Tryz.prog 30 toldR b r n D left cnt) (h1 : w'.heap[b]? = w.heap[b]?) (h2 : w'.heap[r]? = w.heap[r]?) : w'.ranges Tryz.prog 30 toldR b r n D left cnt := by
  obtain ⟨es, clock, since, seen, c0, hb, F, hs, hD, hr, rest⟩ := h
  exact ⟨es, clock, since, seen, c0, h1.trans hb, F, hs, hD, h2.trans hr, rest⟩
/-- In the world w the map at block b, in blocks from B on, tells of each tag what was told of it by L: its row is 'row t', in block blk t. -/
structure TbAt (w : World) (B b n k : Nat) (L : List Ver) (D : DataW Value) (row : Int × Int → Value) (blk : Int × Int → Nat) : Prop where
  map : ∃ m, m ≤ L.length ∧ OwnTM w b m D
  inB : B ≤ b
  has : ∀ t, TagIn t → Maps.has D (litT t) = decide ((shOf n k t L).2 ≠ [])
  at_ : ∀ t, TagIn t → (shOf n k t L).2 ≠ [] → ∀ z, D.atKey (litT t) z = .held (.agg #[.int .i64 (shOf n k t L).1, row t])
  own : ∀ t, TagIn t → w.ownsRow B 49 2 (row t) (shOf n k t L).2.length (shVals (shOf n k t L).2)
  nil_ : ∀ t, TagIn t → (shOf n k t L).2 = [] → row t = .slice none 0 0
  blk_ : ∀ t, TagIn t → (shOf n k t L).2 ≠ [] → (row t).ownBlock = some (blk t) ∧ blk t ≠ b
  apart : ∀ t u, TagIn t → TagIn u → (shOf n k t L).2 ≠ [] → (shOf n k u L).2 ≠ [] → t ≠ u → blk t ≠ blk u
variable {w w' : World} {B b n k : Nat} {L : List Ver} {D : DataW Value} {row : Int × Int → Value} {blk : Int × Int → Nat}
theorem TbAt.lt (h : TbAt w B b n k L D row blk) : b < w.heap.size := by
  obtain ⟨m, _, h1⟩ := h.map
  exact World.ownsMap.lt h1
theorem TbAt.below (h : TbAt w B b n k L D row blk) (hb : Below w.heap.size w w') : TbAt w' B b n k L D row blk := by
  obtain ⟨m, hm, h1⟩ := h.map
  refine ⟨⟨m, hm, h1.same (hb.block b h.lt)⟩, h.inB, h.has, h.at_, fun t ht => World.ownsRow.kept (row := none) (h.own t ht) (below_grown hb none) (by cases (row t).ownBlock <;> simp), h.nil_, h.blk_, h.apart⟩
theorem shOf_nil {n k : Nat} {t : Int × Int} : shOf n k t [] = (-1, []) := rfl
theorem tb_made (w : World) (n k : Nat) : TbAt (w.alloc (.map #[] 0)) w.heap.size w.heap.size n k [] (.map []) (fun _ => .slice none 0 0) (fun _ => 0) := by
  refine ⟨⟨0, Nat.le_refl _, World.ownsMap_made w _ _ _⟩, Nat.le_refl _, fun t _ => rfl, fun t _ h => absurd rfl h, fun t _ => World.ownsRow_nil _ _ _ _, fun _ _ _ => rfl, fun t _ h => absurd rfl h, fun t _ _ _ h => absurd rfl h⟩
/-- The size that a told has: none as long as it has no shards. -/
def sizeT (S : Int × List (Int × ByteArray)) : Int := if S.2 = [] then 0 else S.1
set_option maxRecDepth 10000 in
theorem TbAt.look (h : TbAt w B b n k L D row blk) {t : Int × Int} (ht : TagIn t) : (Instr.lookup 53 (.map (some b)) (tagV t) false).run Tryz.prog w = .ok (.agg #[.int .i64 (sizeT (shOf n k t L)), row t]) w := by
  have hz : (zeroValue 57).run Tryz.prog w = .ok (toldV (0, none, 0, 0)) w := by kernel_rfl
  obtain ⟨m, _, h3⟩ := h.map
  obtain ⟨v, ps, hrun, hR⟩ := World.ownsMap.lookup h3 keyedT Tryz.underlying53 hz (zd := .held (toldV (0, none, 0, 0))) (zp := []) (toldR_mk _) (keyOfT ht)
  rw [hrun]
  obtain ⟨x, rfl, hx⟩ := toldR_inv hR
  have e : D.atKey (litT t) (.held (toldV (0, none, 0, 0))) = .held (toldV x) := congrArg Prod.fst hx
  unfold sizeT
  by_cases hg : (shOf n k t L).2 = []
  · rw [Maps.atKey_of_not_has (by rw [h.has t ht]; simp [hg])] at e
    injection e with e
    rw [if_pos hg, h.nil_ t ht hg, ← e]
    rfl
  · rw [h.at_ t ht hg] at e
    injection e with e
    rw [if_neg hg, e]
theorem own_some {w : World} {B : Nat} {T : TypeId} {v : Value} {l : List (Int × ByteArray)} (h : w.ownsRow B T 2 v l.length (shVals l)) (hl : l ≠ []) : ∃ g, v.ownBlock = some g ∧ B ≤ g ∧ g < w.heap.size := by
  rcases h.2 with ⟨_, h0⟩ | ⟨g, cap, cur, rfl, hb, hg, _⟩
  · exact absurd (List.length_eq_zero_iff.1 h0) hl
  · exact ⟨g, rfl, hb, (Array.getElem?_eq_some_iff.1 hg).1⟩
/-- A version that cannot be is passed over. -/
theorem TbAt.pass (h : TbAt w B b n k L D row blk) {v : Ver} (hv : canB n k v = false) : TbAt w B b n k (L ++ [v]) D row blk := by
  have e : ∀ t, shOf n k t (L ++ [v]) = shOf n k t L := fun t => by rw [shOf_snoc, shStep_no (fun hh => by rw [hv] at hh; cases hh.2.2)]
  obtain ⟨m, hm, h1⟩ := h.map
  refine ⟨⟨m, by rw [List.length_append]; omega, h1⟩, h.inB, ?_, ?_, ?_, ?_, ?_, ?_⟩
  · intro t; rw [e]; exact h.has t
  · intro t; rw [e]; exact h.at_ t
  · intro t; rw [e]; exact h.own t
  · intro t; rw [e]; exact h.nil_ t
  · intro t; rw [e]; exact h.blk_ t
  · intro t u; rw [e, e]; exact h.apart t u
theorem shStep_some {n k : Nat} {t : Int × Int} {S : Int × List (Int × ByteArray)} {v : Ver} (hS : S.1 < 0 ↔ S.2 = []) (hy : v.n = t.1 ∧ v.who = t.2 ∧ canB n k v = true) : (shStep n k t S v).2 ≠ [] := by
  by_cases hz : S.1 < 0
  · rw [shStep_yes (z := v.size) hy (by rw [if_pos hz]), hS.1 hz]
    simp
  · rw [shStep_yes (z := S.1) hy (by rw [if_neg hz])]
    have hne : S.2 ≠ [] := fun e => hz (hS.2 e)
    try dsimp only
    split
    · simp
    · exact hne
/-- One more is put. -/
theorem TbAt.put (h : TbAt w B b n k L D row blk) {v : Ver} (hc : canB n k v = true) (ht : TagIn (v.n, v.who)) (hB : B ≤ w.heap.size) {w1 : World} {row' : Value} {S' : Int × List (Int × ByteArray)} (hS : S' = shStep n k (v.n, v.who) (shOf n k (v.n, v.who) L) v)
    (hg1 : w.grownBy w1 (row (v.n, v.who)).ownBlock) (hown : w1.ownsRow B 49 2 row' S'.2.length (shVals S'.2)) (hblk : row'.ownBlock = (row (v.n, v.who)).ownBlock ∨ ∃ g, row'.ownBlock = some g ∧ w.heap.size ≤ g) (hrow : ∃ p c, row' = .slice p S'.2.length c) (hlen : L.length < 1000000) :
    ∃ w2, (Instr.mapUpdate 53 (.map (some b)) (tagV (v.n, v.who)) (.agg #[.int .i64 S'.1, row'])).run Tryz.prog w1 = .ok () w2 ∧ Below B w w2 ∧ ∃ D' row'' blk', TbAt w2 B b n k (L ++ [v]) D' row'' blk' := by
  obtain ⟨m, hm, h3⟩ := h.map
  have hne' : S'.2 ≠ [] := by rw [hS]; exact shStep_some (shOf_size L) ⟨rfl, rfl, hc⟩
  have hbn : some b ≠ (row (v.n, v.who)).ownBlock := by
    by_cases hg : (shOf n k (v.n, v.who) L).2 = []
    · rw [h.nil_ _ ht hg]; simp [Value.ownBlock]
    · obtain ⟨e1, e2⟩ := h.blk_ _ ht hg
      rw [e1]
      simp
      exact fun e => e2 e.symm
  obtain ⟨p, c, rfl⟩ := hrow
  have h31 : OwnTM w1 b m D := World.ownsMap.kept h3 hg1 hbn
  obtain ⟨w2, hrun, hown2, hg2⟩ := World.ownsMap.update h31 keyedT Tryz.underlying53 (by show m < maxLen; unfold maxLen; omega) (keyOfT ht) (toldR_mk (S'.1, p, S'.2.length, c))
  have hsz1 := hg1.size
  have hbelow : Below B w w2 := by
    have hb1 : Below B w w1 := (Below.refl _ _).grown hg1 hB (fun j hj => by
      by_cases hg : (shOf n k (v.n, v.who) L).2 = []
      · rw [h.nil_ _ ht hg] at hj; cases hj
      · obtain ⟨g, e1, e2, _⟩ := own_some (h.own _ ht) hg
        rw [e1] at hj
        cases hj
        exact e2)
    exact hb1.trans ((Below.refl _ _).grown hg2 (Nat.le_trans hB hsz1) (fun j hj => by cases hj; exact h.inB))
  obtain ⟨g', hg'1, hg'2, hg'3⟩ := own_some hown hne'
  have hg'b : g' ≠ b := by
    rcases hblk with e | ⟨g, e1, e2⟩
    · rw [hg'1] at e
      exact fun e2 => hbn (by rw [← e, e2])
    · rw [hg'1] at e1
      cases e1
      have := h.lt
      omega
  have e1 : shOf n k (v.n, v.who) (L ++ [v]) = S' := by rw [shOf_snoc, hS]
  have e2 : ∀ u, u ≠ (v.n, v.who) → shOf n k u (L ++ [v]) = shOf n k u L := fun u hu => by rw [shOf_snoc, shStep_no (fun hh => hu (Prod.ext hh.1.symm hh.2.1.symm))]
  refine ⟨w2, hrun, hbelow, D.put (litT (v.n, v.who)) (.held (toldV (S'.1, p, S'.2.length, c))), fun u => if u = (v.n, v.who) then .slice p S'.2.length c else row u, fun u => if u = (v.n, v.who) then g' else blk u, ⟨⟨m + 1, by rw [List.length_append, List.length_singleton]; omega, hown2⟩, h.inB, ?_, ?_, ?_, ?_, ?_, ?_⟩⟩
  · intro u hu
    by_cases e : u = (v.n, v.who)
    · rw [e, Maps.has_put_same (World.ownsMap.isMap h3) (litT_key _), e1]
      simp [hne']
    · rw [Maps.has_put_other (fun e' => e (litT_inj hu ht e')), e2 u e]
      exact h.has u hu
  · intro u hu hg z
    by_cases e : u = (v.n, v.who)
    · subst e
      rw [Maps.atKey_put_same (World.ownsMap.isMap h3) (litT_key _), e1, if_pos rfl]
      rfl
    · rw [e2 u e] at hg ⊢
      rw [Maps.atKey_put_other (fun e' => e (litT_inj hu ht e')), if_neg e]
      exact h.at_ u hu hg z
  · intro u hu
    try dsimp only
    by_cases e : u = (v.n, v.who)
    · subst e
      rw [e1, if_pos rfl]
      refine World.ownsRow.kept hown hg2 ?_
      rw [hg'1]
      refine Or.inr fun e => hg'b ?_
      injection e
    · rw [e2 u e, if_neg e]
      have hk1 : w1.ownsRow B 49 2 (row u) (shOf n k u L).2.length (shVals (shOf n k u L).2) := by
        refine World.ownsRow.kept (h.own u hu) hg1 ?_
        by_cases hgu : (shOf n k u L).2 = []
        · rw [h.nil_ u hu hgu]; exact Or.inl rfl
        · refine Or.inr ?_
          rw [(h.blk_ u hu hgu).1]
          by_cases hgt : (shOf n k (v.n, v.who) L).2 = []
          · rw [h.nil_ _ ht hgt]; simp [Value.ownBlock]
          · rw [(h.blk_ _ ht hgt).1]
            intro e'
            injection e' with e'
            exact h.apart u _ hu ht hgu hgt e e'
      refine World.ownsRow.kept hk1 hg2 ?_
      by_cases hgu : (shOf n k u L).2 = []
      · rw [h.nil_ u hu hgu]; exact Or.inl rfl
      · refine Or.inr ?_
        rw [(h.blk_ u hu hgu).1]
        intro e'
        injection e' with e'
        exact (h.blk_ u hu hgu).2 e'
  · intro u hu hg
    try dsimp only
    by_cases e : u = (v.n, v.who)
    · subst e
      rw [e1] at hg
      exact absurd hg hne'
    · rw [e2 u e] at hg
      rw [if_neg e]
      exact h.nil_ u hu hg
  · intro u hu hg
    try dsimp only
    by_cases e : u = (v.n, v.who)
    · subst e
      rw [if_pos rfl, if_pos rfl]
      exact ⟨hg'1, hg'b⟩
    · rw [e2 u e] at hg
      rw [if_neg e, if_neg e]
      exact h.blk_ u hu hg
  · intro u x hu hx hgu hgx hne
    try dsimp only
    have hnew : ∀ y, TagIn y → y ≠ (v.n, v.who) → (shOf n k y L).2 ≠ [] → blk y ≠ g' := fun y hy hyt hgy e => by
      obtain ⟨g, q1, q2, q3⟩ := own_some (h.own y hy) hgy
      rw [(h.blk_ y hy hgy).1] at q1
      injection q1 with q1
      rcases hblk with e' | ⟨g2, e', e''⟩
      · by_cases hgt : (shOf n k (v.n, v.who) L).2 = []
        · rw [h.nil_ _ ht hgt, hg'1] at e'; cases e'
        · rw [hg'1, (h.blk_ _ ht hgt).1] at e'
          injection e' with e'
          exact h.apart y _ hy ht hgy hgt hyt (e.trans e')
      · rw [hg'1] at e'
        injection e' with e'
        omega
    by_cases eu : u = (v.n, v.who)
    · have ex : x ≠ (v.n, v.who) := fun e => hne (eu.trans e.symm)
      rw [if_pos eu, if_neg ex]
      rw [e2 x ex] at hgx
      exact fun e => hnew x hx ex hgx e.symm
    · rw [e2 u eu] at hgu
      rw [if_neg eu]
      by_cases ex : x = (v.n, v.who)
      · rw [if_pos ex]
        exact hnew u hu eu hgu
      · rw [e2 x ex] at hgx
        rw [if_neg ex]
        exact h.apart u x hu hx hgu hgx hne
end
set_option maxRecDepth 10000 in
theorem with1_any (g : Nat) (x y : Int) (t : ByteArray) (w : World) (hx : w.cell? ⟨g, 3, none⟩ = some (.int .i64 x)) :
    Calls Tryz.prog 54 (#[.agg #[.int .i64 y, .string t]] ++ #[.pointer (some ⟨g, 0, none⟩)]) w fun e w2 => e = .returned (.bool (y == x)) ∧ Below w.heap.size w w2 := by
  have hlt := lt_of_cell hx
  go_enter Tryz.func54, Tryz.ntmps54
  go_wp2
  go_ret
  exact ⟨rfl, (Below.refl _ _).alloc (Nat.le_refl _) _⟩
/-- The size of a told that has one version more, and its shards. -/
def withZ (z : Int) (S : List (Int × ByteArray)) (v : Ver) : Int := if S = [] then v.size else z
def withS (z : Int) (S : List (Int × ByteArray)) (v : Ver) : List (Int × ByteArray) := if v.size = withZ z S v ∧ S.any (fun y => y.1 == v.at_) = false then S ++ [(v.at_, v.text)] else S
theorem with_step {n k : Nat} {t : Int × Int} {S : Int × List (Int × ByteArray)} {v : Ver} (hS : S.1 < 0 ↔ S.2 = []) (hy : v.n = t.1 ∧ v.who = t.2 ∧ canB n k v = true) : shStep n k t S v = (withZ (sizeT S) S.2 v, withS (sizeT S) S.2 v) := by
  by_cases hz : S.1 < 0
  · have e : S.2 = [] := hS.1 hz
    rw [shStep_yes (z := v.size) hy (by rw [if_pos hz])]
    unfold withS withZ
    rw [e]
    simp
  · have hne : S.2 ≠ [] := fun e => hz (hS.2 e)
    rw [shStep_yes (z := S.1) hy (by rw [if_neg hz])]
    unfold withS withZ sizeT
    rw [if_neg hne, if_neg hne]
/-- TwoC cells of a block of the call's. -/
structure TwoC (w : World) (b : Nat) (x y : Value) : Prop where
  c0 : w.cell? ⟨b, 0, none⟩ = some x
  c1 : w.cell? ⟨b, 1, none⟩ = some y
  f0 : w.frozen? ⟨b, 0, none⟩ = false
  f1 : w.frozen? ⟨b, 1, none⟩ = false
theorem TwoC.below {w w' : World} {b : Nat} {x y : Value} (h : TwoC w b x y) (hb : Below w.heap.size w w') : TwoC w' b x y :=
  have hlt := lt_of_cell h.c0
  ⟨(hb.cell (p := ⟨b, 0, none⟩) hlt).trans h.c0, (hb.cell (p := ⟨b, 1, none⟩) hlt).trans h.c1, (hb.frozen (p := ⟨b, 0, none⟩) hlt).trans h.f0, (hb.frozen (p := ⟨b, 1, none⟩) hlt).trans h.f1⟩
theorem TwoC.grown {w w' : World} {b : Nat} {x y : Value} {row : Option Nat} (h : TwoC w b x y) (hb : w.grownBy w' row) (hne : some b ≠ row) : TwoC w' b x y :=
  have e := hb.block b (lt_of_cell h.c0) hne
  ⟨(World.cell?_of_block (a := ⟨b, 0, none⟩) e).trans h.c0, (World.cell?_of_block (a := ⟨b, 1, none⟩) e).trans h.c1, (World.frozen?_of_block (a := ⟨b, 0, none⟩) e).trans h.f0, (World.frozen?_of_block (a := ⟨b, 1, none⟩) e).trans h.f1⟩
theorem TwoC.set0 {w : World} {b : Nat} {x y : Value} (h : TwoC w b x y) (v : Value) : TwoC (w.setCell ⟨b, 0, none⟩ v) b v y :=
  ⟨World.cell?_setCell_same _ _ _ h.c0, (World.cell?_setCell_other _ _ _ _ (fun e => by have h2 : (0 : Nat) = 1 := congrArg Addr.off e; omega)).trans h.c1, by simp [h.f0], by simp [h.f1]⟩
theorem TwoC.set1 {w : World} {b : Nat} {x y : Value} (h : TwoC w b x y) (v : Value) : TwoC (w.setCell ⟨b, 1, none⟩ v) b x v :=
  ⟨(World.cell?_setCell_other _ _ _ _ (fun e => by have h2 : (1 : Nat) = 0 := congrArg Addr.off e; omega)).trans h.c0, World.cell?_setCell_same _ _ _ h.c1, by simp [h.f0], by simp [h.f1]⟩
theorem TwoC.other {w : World} {b : Nat} {x y : Value} (h : TwoC w b x y) (a : Addr) (v : Value) (hne : b ≠ a.block) : TwoC (w.setCell a v) b x y :=
  ⟨(World.cell?_setCell_other _ _ _ _ (fun e => hne (congrArg Addr.block e).symm)).trans h.c0, (World.cell?_setCell_other _ _ _ _ (fun e => hne (congrArg Addr.block e).symm)).trans h.c1, by simp [h.f0], by simp [h.f1]⟩
theorem wgrown_cell {w W : World} {row : Option Nat} (h : w.grownBy W row) (a : Addr) (v : Value) (ha : w.heap.size ≤ a.block) : w.grownBy (W.setCell a v) row :=
  ⟨h.os, h.tape, h.output, by simp [World.setCell]; exact h.size, fun k hk hne => (Below.heap_setCell W a v k (by omega)).trans (h.block k hk hne)⟩
theorem own_set {w : World} {B : Nat} {T : TypeId} {row : Value} {n : Nat} {xs : List Value} (h : w.ownsRow B T 2 row n xs) (a : Addr) (v : Value) (ha : row.ownBlock ≠ some a.block) : (w.setCell a v).ownsRow B T 2 row n xs :=
  World.ownsRow.kept (row := some a.block) h ⟨rfl, rfl, rfl, by simp [World.setCell], fun k _ hne => Below.heap_setCell w a v k (fun e => hne (by rw [e]))⟩ (Or.inr ha)
theorem vals_snoc (l : List (Int × ByteArray)) (x : Int × ByteArray) : shVals (l ++ [x]) = shVals l ++ [.int .i64 x.1, .string x.2] := by simp [shVals]
/-- What is read of a version. -/
structure V3 (w : World) (b : Nat) (xs xa : Int) (xt : ByteArray) : Prop where
  c2 : w.cell? ⟨b, 2, none⟩ = some (.int .i64 xs)
  c3 : w.cell? ⟨b, 3, none⟩ = some (.int .i64 xa)
  c4 : w.cell? ⟨b, 4, none⟩ = some (.string xt)
theorem V3.block {w w' : World} {b : Nat} {xs xa : Int} {xt : ByteArray} (h : V3 w b xs xa xt) (e : w'.heap[b]? = w.heap[b]?) : V3 w' b xs xa xt :=
  ⟨(World.cell?_of_block (a := ⟨b, 2, none⟩) e).trans h.c2, (World.cell?_of_block (a := ⟨b, 3, none⟩) e).trans h.c3, (World.cell?_of_block (a := ⟨b, 4, none⟩) e).trans h.c4⟩
theorem V3.below {w w' : World} {b : Nat} {xs xa : Int} {xt : ByteArray} (h : V3 w b xs xa xt) (hb : Below w.heap.size w w') : V3 w' b xs xa xt := h.block (hb.block b (lt_of_cell h.c2))
/-- What with has on its way: the told at block a, the version behind it, the answer behind that, and the row. -/
structure WAt (w W : World) (B : Nat) (p : Option Addr) (S : List (Int × ByteArray)) (c : Nat) (zv xs xa : Int) (xt : ByteArray) : Prop where
  A : TwoC W w.heap.size (.int .i64 zv) (.slice p S.length c)
  V : V3 W (w.heap.size + 1) xs xa xt
  R : TwoC W (w.heap.size + 1 + 1) (.int .i64 0) (.slice none 0 0)
  own : W.ownsRow B 49 2 (.slice p S.length c) S.length (shVals S)
  g : Below w.heap.size w W
  sz : w.heap.size + 1 + 1 + 1 ≤ W.heap.size
theorem WAt.below {w W W' : World} {B : Nat} {p : Option Addr} {S : List (Int × ByteArray)} {c : Nat} {zv xs xa : Int} {xt : ByteArray} (h : WAt w W B p S c zv xs xa xt) (hb : Below W.heap.size W W') : WAt w W' B p S c zv xs xa xt :=
  ⟨h.A.below hb, h.V.below hb, h.R.below hb, World.ownsRow.kept (row := none) h.own (below_grown hb none) (by cases (Value.slice p S.length c).ownBlock <;> simp), h.g.trans (hb.mono h.g.size), Nat.le_trans h.sz hb.size⟩
theorem WAt.setz {w W : World} {B : Nat} {p : Option Addr} {S : List (Int × ByteArray)} {c : Nat} {zv xs xa : Int} {xt : ByteArray} (h : WAt w W B p S c zv xs xa xt) (hr : ∀ g, (Value.slice p S.length c).ownBlock = some g → g < w.heap.size) (z' : Int) : WAt w (W.setCell ⟨w.heap.size, 0, none⟩ (.int .i64 z')) B p S c z' xs xa xt :=
  ⟨h.A.set0 _, h.V.block (Below.heap_setCell W _ _ _ (by show w.heap.size + 1 ≠ w.heap.size; omega)), h.R.other _ _ (by show w.heap.size + 1 + 1 ≠ w.heap.size; omega), own_set h.own _ _ (fun e => by have := hr _ e; simp at this), h.g.setCell (Nat.le_refl _) _, by simpa [World.setCell] using h.sz⟩
/-- What a call of with leaves. -/
def WithOk (B : Nat) (z : Int) (S : List (Int × ByteArray)) (v : Ver) (row : Value) (w : World) (e : Ending) (w' : World) : Prop :=
  ∃ row', e = .returned (.agg #[.int .i64 (withZ z S v), row']) ∧ w'.ownsRow B 49 2 row' (withS z S v).length (shVals (withS z S v)) ∧ w.grownBy w' row.ownBlock ∧ (row'.ownBlock = row.ownBlock ∨ ∃ g, row'.ownBlock = some g ∧ w.heap.size ≤ g) ∧ ∃ p c, row' = .slice p (withS z S v).length c
set_option maxRecDepth 10000 in
set_option maxHeartbeats 8000000 in
theorem with_any (z : Int) (S : List (Int × ByteArray)) (row : Value) (v : Ver) (B : Nat) (w : World) (hl : S.length ≤ 1000) (hown : w.ownsRow B 49 2 row S.length (shVals S)) (hB : B ≤ w.heap.size) :
    Calls Tryz.prog 29 #[.agg #[.int .i64 z, row], .agg #[.int .i64 v.n, .int .i64 v.who, .int .i64 v.size, .int .i64 v.at_, .string v.text]] w (WithOk B z S v row w) := by
  obtain ⟨i1, hi1, hy0, hy1, hy2⟩ := info_parts shinfo
  obtain ⟨p, c, rfl, hsh⟩ := shs_of_own hown
  have hrb : ∀ g, (Value.slice p S.length c).ownBlock = some g → g < w.heap.size := fun g hg => (World.ownsRow.lt hown g hg).2
  obtain ⟨xn, xw, xs, xa, xt⟩ := v
  have hw0 : ∃ w3, w3 = ((w.alloc (.cells #[.int .i64 z, .slice p S.length c] 57)).alloc (.cells #[.int .i64 xn, .int .i64 xw, .int .i64 xs, .int .i64 xa, .string xt] 51)).alloc (.cells #[.int .i64 0, .slice none 0 0] 57) ∧ WAt w w3 B p S c z xs xa xt := by
    obtain ⟨w1, hw1⟩ : ∃ w1, w1 = w.alloc (.cells #[.int .i64 z, .slice p S.length c] 57) := ⟨_, rfl⟩
    obtain ⟨w2, hw2⟩ : ∃ w2, w2 = w1.alloc (.cells #[.int .i64 xn, .int .i64 xw, .int .i64 xs, .int .i64 xa, .string xt] 51) := ⟨_, rfl⟩
    obtain ⟨w3, hw3⟩ : ∃ w3, w3 = w2.alloc (.cells #[.int .i64 0, .slice none 0 0] 57) := ⟨_, rfl⟩
    have e1 : w1.heap.size = w.heap.size + 1 := by rw [hw1]; simp
    have e2 : w2.heap.size = w.heap.size + 1 + 1 := by rw [hw2, ← e1]; simp
    have e3 : w3.heap.size = w.heap.size + 1 + 1 + 1 := by rw [hw3, ← e2]; simp
    have hb1 : Below w.heap.size w w1 := by rw [hw1]; exact (Below.refl _ _).alloc (Nat.le_refl _) _
    have hb2 : Below w1.heap.size w1 w2 := by rw [hw2]; exact (Below.refl _ _).alloc (Nat.le_refl _) _
    have hb3 : Below w2.heap.size w2 w3 := by rw [hw3]; exact (Below.refl _ _).alloc (Nat.le_refl _) _
    have hb13 : Below w1.heap.size w1 w3 := hb2.trans (hb3.mono hb2.size)
    have hb03 : Below w.heap.size w w3 := hb1.trans (hb13.mono hb1.size)
    have hA1 : TwoC w1 w.heap.size (.int .i64 z) (.slice p S.length c) := by
      rw [hw1]
      exact ⟨by rw [World.cell?_alloc_at _ _ _ _ rfl]; rfl, by rw [World.cell?_alloc_at _ _ _ _ rfl]; rfl, World.frozen?_alloc_at _ _ _ _ rfl, World.frozen?_alloc_at _ _ _ _ rfl⟩
    have hR : TwoC w3 (w.heap.size + 1 + 1) (.int .i64 0) (.slice none 0 0) := by
      rw [hw3]
      exact ⟨by rw [World.cell?_alloc_at _ _ _ _ e2.symm]; rfl, by rw [World.cell?_alloc_at _ _ _ _ e2.symm]; rfl, World.frozen?_alloc_at _ _ _ _ e2.symm, World.frozen?_alloc_at _ _ _ _ e2.symm⟩
    have hV2 : V3 w2 (w.heap.size + 1) xs xa xt := by
      rw [hw2]
      exact ⟨by rw [World.cell?_alloc_at _ _ _ _ e1.symm]; rfl, by rw [World.cell?_alloc_at _ _ _ _ e1.symm]; rfl, by rw [World.cell?_alloc_at _ _ _ _ e1.symm]; rfl⟩
    exact ⟨w3, by rw [hw3, hw2, hw1], hA1.below hb13, hV2.below hb3, hR, World.ownsRow.kept (row := none) hown (below_grown hb03 none) (by cases (Value.slice p S.length c).ownBlock <;> simp), hb03, by omega⟩
  obtain ⟨w3, hw3, hat⟩ := hw0
  have HW3 : Hid (w3 = ((w.alloc (.cells #[.int .i64 z, .slice p S.length c] 57)).alloc (.cells #[.int .i64 xn, .int .i64 xw, .int .i64 xs, .int .i64 xa, .string xt] 51)).alloc (.cells #[.int .i64 0, .slice none 0 0] 57)) := hw3
  have HAT : Hid (WAt w w3 B p S c z xs xa xt) := hat
  have HRB : Hid (∀ g, (Value.slice p S.length c).ownBlock = some g → g < w.heap.size) := hrb
  have HCN : Hid (∀ W zv, WAt w W B p S c zv xs xa xt → Calls Tryz.prog 32 #[.slice p S.length c, .func (.func 54) #[] #[.pointer (some ⟨w.heap.size + 1, 0, none⟩)]] W fun e w' => e = .returned (.bool (S.any fun y => y.1 == xa)) ∧ Below W.heap.size W w') := fun W zv hW => by
    obtain ⟨p', c', hpc, hsh'⟩ := shs_of_own hW.own
    simp at hpc
    obtain ⟨rfl, rfl⟩ := hpc
    exact contains_any p S c 54 #[.pointer (some ⟨w.heap.size + 1, 0, none⟩)] (fun y => y.1 == xa) W (by omega) hsh' (enters_of Tryz.func54 (by kernel_rfl) rfl) (fun i hi w1 h1 => with1_any (w.heap.size + 1) xa (shAt S i).1 (shAt S i).2 w1 (hW.V.below h1).c3)
  have HEND : Hid (∀ W zv, WAt w W B p S c zv xs xa xt → withZ z S ⟨xn, xw, xs, xa, xt⟩ = zv → withS z S ⟨xn, xw, xs, xa, xt⟩ = S → WithOk B z S ⟨xn, xw, xs, xa, xt⟩ (.slice p S.length c) w (.returned (.agg #[.int .i64 zv, .slice p S.length c])) ((W.setCell ⟨w.heap.size + 1 + 1, 0, none⟩ (.int .i64 zv)).setCell ⟨w.heap.size + 1 + 1, 1, none⟩ (.slice p S.length c))) := fun W zv hW hz hs => by
    refine ⟨.slice p S.length c, by rw [hz], ?_, ?_, Or.inl rfl, p, c, by rw [hs]⟩
    · rw [hs]
      exact own_set (own_set hW.own _ _ (fun e => by have : w.heap.size + 1 + 1 < w.heap.size := HRB.out _ e; omega)) _ _ (fun e => by have : w.heap.size + 1 + 1 < w.heap.size := HRB.out _ e; omega)
    · exact wgrown_cell (wgrown_cell (below_grown hW.g _) _ _ (by show w.heap.size ≤ w.heap.size + 1 + 1; omega)) _ _ (by show w.heap.size ≤ w.heap.size + 1 + 1; omega)
  have HAPP : Hid (∀ W zv v6 w6, WAt w W B p S c zv xs xa xt → withZ z S ⟨xn, xw, xs, xa, xt⟩ = zv → withS z S ⟨xn, xw, xs, xa, xt⟩ = S ++ [(xa, xt)] → w6.ownsRow B 49 2 v6 (S.length + 1) (shVals S ++ [.int .i64 xa, .string xt]) → W.grownBy w6 (Value.slice p S.length c).ownBlock → (v6.ownBlock = (Value.slice p S.length c).ownBlock ∨ v6.ownBlock = some W.heap.size) →
      (∃ p6 c6, v6 = .slice p6 (S.length + 1) c6) ∧ TwoC w6 w.heap.size (.int .i64 zv) (.slice p S.length c) ∧ TwoC w6 (w.heap.size + 1 + 1) (.int .i64 0) (.slice none 0 0) ∧ WithOk B z S ⟨xn, xw, xs, xa, xt⟩ (.slice p S.length c) w (.returned (.agg #[.int .i64 zv, v6])) (((w6.setCell ⟨w.heap.size, 1, none⟩ v6).setCell ⟨w.heap.size + 1 + 1, 0, none⟩ (.int .i64 zv)).setCell ⟨w.heap.size + 1 + 1, 1, none⟩ v6)) := fun W zv v6 w6 hW hz hs hO hg hloc => by
    have hlen : (S ++ [(xa, xt)]).length = S.length + 1 := by simp
    have hO' : w6.ownsRow B 49 2 v6 (S ++ [(xa, xt)]).length (shVals (S ++ [(xa, xt)])) := by rw [vals_snoc, hlen]; exact hO
    obtain ⟨p6, c6, hv6, _⟩ := shs_of_own hO'
    have hnA : some w.heap.size ≠ (Value.slice p S.length c).ownBlock := fun e => by have := HRB.out _ e.symm; omega
    have hnR : some (w.heap.size + 1 + 1) ≠ (Value.slice p S.length c).ownBlock := fun e => by have := HRB.out _ e.symm; omega
    have hsz := hW.sz
    have hv : ∀ q, q = w.heap.size ∨ q = w.heap.size + 1 + 1 → v6.ownBlock ≠ some q := fun q hq e => by
      rcases hloc with h | h
      · rw [h] at e
        have := HRB.out _ e
        omega
      · rw [h] at e
        injection e with e
        omega
    refine ⟨⟨p6, c6, by rw [hv6, hlen]⟩, hW.A.grown hg hnA, hW.R.grown hg hnR, v6, by rw [hz], ?_, ?_, ?_, p6, c6, by rw [hs]; exact hv6⟩
    · rw [hs]
      exact own_set (own_set (own_set hO' _ _ (hv _ (Or.inl rfl))) _ _ (hv _ (Or.inr rfl))) _ _ (hv _ (Or.inr rfl))
    · have hwg : w.grownBy w6 (Value.slice p S.length c).ownBlock := ⟨hg.os.trans hW.g.os, hg.tape.trans hW.g.tape, hg.output.trans hW.g.output, Nat.le_trans hW.g.size hg.size, fun k hk hne => (hg.block k (Nat.lt_of_lt_of_le hk hW.g.size) hne).trans (hW.g.block k hk)⟩
      exact wgrown_cell (wgrown_cell (wgrown_cell hwg _ _ (Nat.le_refl _)) _ _ (by show w.heap.size ≤ w.heap.size + 1 + 1; omega)) _ _ (by show w.heap.size ≤ w.heap.size + 1 + 1; omega)
    · rcases hloc with h | h
      · exact Or.inl h
      · exact Or.inr ⟨_, h, by omega⟩
  have hHB : B ≤ w.heap.size := hB
  clear hw3 hat hsh hown hrb hB
  have a0 := HAT.out.A.c0
  have a1 := HAT.out.A.c1
  have af0 := HAT.out.A.f0
  have v2 := HAT.out.V.c2
  by_cases hS : S = []
  · have HZ : Hid (withZ z S ⟨xn, xw, xs, xa, xt⟩ = xs) := by show withZ _ _ _ = _; unfold withZ; rw [if_pos hS]
    have HY : Hid (withS z S ⟨xn, xw, xs, xa, xt⟩ = S ++ [(xa, xt)]) := by
      show withS _ _ _ = _
      unfold withS
      rw [HZ.out, if_pos ⟨rfl, by rw [hS]; rfl⟩]
    have HN : Hid (S.any (fun y => y.1 == xa) = false) := by show _ = _; rw [hS]; rfl
    rw [HN.out] at HCN
    have hl0 : (S.length : Int) = 0 := by rw [hS]; rfl
    have b0 : ((S.length : Int) == 0) = true := by rw [hl0]; rfl
    have HAT' : Hid (WAt w (w3.setCell ⟨w.heap.size, 0, none⟩ (.int .i64 xs)) B p S c xs xs xa xt) := HAT.out.setz HRB.out xs
    have HCN' := HCN.out _ _ HAT'.out
    obtain ⟨w4, hw4⟩ : ∃ w4, w4 = w3.setCell ⟨w.heap.size, 0, none⟩ (.int .i64 xs) := ⟨_, rfl⟩
    rw [← hw4] at HCN' HAT'
    have HW4 : Hid (w4 = w3.setCell ⟨w.heap.size, 0, none⟩ (.int .i64 xs)) := hw4
    have d1 := HAT'.out.A.c1
    clear hw4 hS hl0 HN
    go_enter Tryz.func29, Tryz.ntmps29
    go_wp2_with (first | rw [← HW3.out] | rw [← HW4.out])
    refine HCN'.mono ?_
    rintro e w5 ⟨rfl, hb5⟩
    have hat5 := HAT'.out.below hb5
    clear a0 a1 af0 v2 d1 hb5 HCN' HCN HAT HAT' HW3 HW4 HEND
    have a0 := hat5.A.c0
    have a1 := hat5.A.c1
    have v2 := hat5.V.c2
    have v3 := hat5.V.c3
    have v4 := hat5.V.c4
    obtain ⟨w6, hw6⟩ : ∃ w6, w6 = w5.alloc (.cells #[.int .i64 xa, .string xt] 49) := ⟨_, rfl⟩
    have HAT6 : Hid (WAt w w6 B p S c xs xs xa xt) := by show WAt _ _ _ _ _ _ _ _ _ _; rw [hw6]; exact hat5.below ((Below.refl _ _).alloc (Nat.le_refl _) _)
    have HN6 : Hid (∀ (j : Nat) (u : Value), [Value.int .i64 xa, Value.string xt][j]? = some u → w6.cell? ((⟨w5.heap.size, 0, none⟩ : Addr).add j) = some u) := fun j u hj => by
      rw [hw6, Addr.add_lit]
      match j, hj with
      | 0, hj => (simp at hj; subst hj; rw [World.cell?_alloc_at _ _ _ _ rfl]; rfl)
      | 1, hj => (simp at hj; subst hj; rw [World.cell?_alloc_at _ _ _ _ rfl]; rfl)
    have HB6 : Hid (B ≤ w6.heap.size) := Nat.le_trans hHB HAT6.out.g.size
    have HW6 : Hid (w6 = w5.alloc (.cells #[.int .i64 xa, .string xt] 49)) := hw6
    have HO6 : Hid (w6.ownsRow B 49 2 (.slice p S.length c) S.length (shVals S)) := HAT6.out.own
    clear hw6 hat5
    go_wp2_with (first | rw [← HW6.out] | (at_builtin; refine wpList_append_at rfl (.tmp 27) (.tmp 30) 55 rfl B 49 i1 (.agg #[.int .i64 0, .string ⟨#[]⟩]) 2 24 Tryz.underlying55 hi1 hy0 hy1 hy2 rfl (by decide) (.slice p S.length c) S.length (shVals S) rfl HO6.out ⟨w5.heap.size, 0, none⟩ 1 1 [.int .i64 xa, .string xt] rfl rfl HN6.out (fun u hu => by simp at hu; rcases hu with rfl | rfl <;> rfl) (by unfold maxLen; omega) (by omega) HB6.out (by decide) ?_; intro v7 w7 hO7 hg7 hl7; obtain ⟨⟨p7, c7, hv7⟩, hA7, hR7, hE7⟩ := HAPP.out w6 xs v7 w7 HAT6.out HZ.out HY.out hO7 hg7 hl7; subst hv7; have HE7 : Hid (WithOk B z S ⟨xn, xw, xs, xa, xt⟩ (.slice p S.length c) w (.returned (.agg #[.int .i64 xs, .slice p7 (S.length + 1) c7])) (((w7.setCell ⟨w.heap.size, 1, none⟩ (.slice p7 (S.length + 1) c7)).setCell ⟨w.heap.size + 1 + 1, 0, none⟩ (.int .i64 xs)).setCell ⟨w.heap.size + 1 + 1, 1, none⟩ (.slice p7 (S.length + 1) c7))) := hE7; have hA8 := hA7.set1 (.slice p7 (S.length + 1) c7); have hR8 := hR7.other ⟨w.heap.size, 1, none⟩ (.slice p7 (S.length + 1) c7) (by show w.heap.size + 1 + 1 ≠ w.heap.size; omega); have hR9 := (hR8.set0 (.int .i64 xs)).set1 (.slice p7 (S.length + 1) c7); have a0 := hA7.c0; have a1 := hA7.c1; have af1 := hA7.f1; have m0 := hA8.c0; have m1 := hA8.c1; have r0 := hR8.c0; have r1 := hR8.c1; have rf0 := hR8.f0; have rf1 := hR8.f1; have k0 := hR9.c0; have k1 := hR9.c1; clear hO7 hg7 hl7 hA7 hR7 hE7 hA8 hR8 hR9))
    exact bodyPost_ret (v := .agg #[.int .i64 xs, .slice p7 (S.length + 1) c7]) (by simp [results, Tryz.results29, go_sem, k0, k1]) rfl HE7.out
  · have HZ : Hid (withZ z S ⟨xn, xw, xs, xa, xt⟩ = z) := by show withZ _ _ _ = _; unfold withZ; rw [if_neg hS]
    have hl0 : ¬ (S.length : Int) = 0 := fun h => hS (List.length_eq_zero_iff.1 (by omega))
    have b0 : ((S.length : Int) == 0) = false := by rw [beq_eq_false_iff_ne]; exact hl0
    have HCN' := HCN.out _ _ HAT.out
    have HYD : Hid (withS z S ⟨xn, xw, xs, xa, xt⟩ = if xs = z ∧ S.any (fun y => y.1 == xa) = false then S ++ [(xa, xt)] else S) := by show withS _ _ _ = _; unfold withS; rw [HZ.out]
    clear hS HCN
    generalize (S.any fun y => y.1 == xa) = th at *
    cases th with
    | true =>
      have HY : Hid (withS z S ⟨xn, xw, xs, xa, xt⟩ = S) := by show withS _ _ _ = _; rw [HYD.out, if_neg (fun h => by cases h.2)]
      clear HYD HAPP
      go_enter Tryz.func29, Tryz.ntmps29
      go_wp2_with (rw [← HW3.out])
      refine HCN'.mono ?_
      rintro e w5 ⟨rfl, hb5⟩
      have hat5 := HAT.out.below hb5
      clear a0 a1 af0 v2 hb5 HCN' HAT HW3
      have HE7 := HEND.out w5 z hat5 HZ.out HY.out
      have hR9 := (hat5.R.set0 (.int .i64 z)).set1 (.slice p S.length c)
      have a0 := hat5.A.c0
      have a1 := hat5.A.c1
      have r0 := hat5.R.c0
      have r1 := hat5.R.c1
      have rf0 := hat5.R.f0
      have rf1 := hat5.R.f1
      have k0 := hR9.c0
      have k1 := hR9.c1
      have HE8 : Hid (WithOk B z S ⟨xn, xw, xs, xa, xt⟩ (.slice p S.length c) w (.returned (.agg #[.int .i64 z, .slice p S.length c])) ((w5.setCell ⟨w.heap.size + 1 + 1, 0, none⟩ (.int .i64 z)).setCell ⟨w.heap.size + 1 + 1, 1, none⟩ (.slice p S.length c))) := HE7
      clear hat5 hR9 HE7 HEND
      go_wp2
      exact bodyPost_ret (v := .agg #[.int .i64 z, .slice p S.length c]) (by simp [results, Tryz.results29, go_sem, k0, k1]) rfl HE8.out
    | false =>
      by_cases hxz : xs = z
      · have HY : Hid (withS z S ⟨xn, xw, xs, xa, xt⟩ = S ++ [(xa, xt)]) := by show withS _ _ _ = _; rw [HYD.out, if_pos ⟨hxz, rfl⟩]
        clear HYD HEND
        subst hxz
        have b1 : (xs == xs) = true := beq_self_eq_true xs
        go_enter Tryz.func29, Tryz.ntmps29
        go_wp2_with (rw [← HW3.out])
        refine HCN'.mono ?_
        rintro e w5 ⟨rfl, hb5⟩
        have hat5 := HAT.out.below hb5
        clear a0 a1 af0 v2 hb5 HCN' HAT HW3
        have a0 := hat5.A.c0
        have a1 := hat5.A.c1
        have v2 := hat5.V.c2
        have v3 := hat5.V.c3
        have v4 := hat5.V.c4
        obtain ⟨w6, hw6⟩ : ∃ w6, w6 = w5.alloc (.cells #[.int .i64 xa, .string xt] 49) := ⟨_, rfl⟩
        have HAT6 : Hid (WAt w w6 B p S c xs xs xa xt) := by show WAt _ _ _ _ _ _ _ _ _ _; rw [hw6]; exact hat5.below ((Below.refl _ _).alloc (Nat.le_refl _) _)
        have HN6 : Hid (∀ (j : Nat) (u : Value), [Value.int .i64 xa, Value.string xt][j]? = some u → w6.cell? ((⟨w5.heap.size, 0, none⟩ : Addr).add j) = some u) := fun j u hj => by
          rw [hw6, Addr.add_lit]
          match j, hj with
          | 0, hj => (simp at hj; subst hj; rw [World.cell?_alloc_at _ _ _ _ rfl]; rfl)
          | 1, hj => (simp at hj; subst hj; rw [World.cell?_alloc_at _ _ _ _ rfl]; rfl)
        have HB6 : Hid (B ≤ w6.heap.size) := Nat.le_trans hHB HAT6.out.g.size
        have HW6 : Hid (w6 = w5.alloc (.cells #[.int .i64 xa, .string xt] 49)) := hw6
        have HO6 : Hid (w6.ownsRow B 49 2 (.slice p S.length c) S.length (shVals S)) := HAT6.out.own
        clear hw6 hat5
        go_wp2_with (first | rw [← HW6.out] | (at_builtin; refine wpList_append_at rfl (.tmp 27) (.tmp 30) 55 rfl B 49 i1 (.agg #[.int .i64 0, .string ⟨#[]⟩]) 2 24 Tryz.underlying55 hi1 hy0 hy1 hy2 rfl (by decide) (.slice p S.length c) S.length (shVals S) rfl HO6.out ⟨w5.heap.size, 0, none⟩ 1 1 [.int .i64 xa, .string xt] rfl rfl HN6.out (fun u hu => by simp at hu; rcases hu with rfl | rfl <;> rfl) (by unfold maxLen; omega) (by omega) HB6.out (by decide) ?_; intro v7 w7 hO7 hg7 hl7; obtain ⟨⟨p7, c7, hv7⟩, hA7, hR7, hE7⟩ := HAPP.out w6 xs v7 w7 HAT6.out HZ.out HY.out hO7 hg7 hl7; subst hv7; have HE7 : Hid (WithOk B xs S ⟨xn, xw, xs, xa, xt⟩ (.slice p S.length c) w (.returned (.agg #[.int .i64 xs, .slice p7 (S.length + 1) c7])) (((w7.setCell ⟨w.heap.size, 1, none⟩ (.slice p7 (S.length + 1) c7)).setCell ⟨w.heap.size + 1 + 1, 0, none⟩ (.int .i64 xs)).setCell ⟨w.heap.size + 1 + 1, 1, none⟩ (.slice p7 (S.length + 1) c7))) := hE7; have hA8 := hA7.set1 (.slice p7 (S.length + 1) c7); have hR8 := hR7.other ⟨w.heap.size, 1, none⟩ (.slice p7 (S.length + 1) c7) (by show w.heap.size + 1 + 1 ≠ w.heap.size; omega); have hR9 := (hR8.set0 (.int .i64 xs)).set1 (.slice p7 (S.length + 1) c7); have a0 := hA7.c0; have a1 := hA7.c1; have af1 := hA7.f1; have m0 := hA8.c0; have m1 := hA8.c1; have r0 := hR8.c0; have r1 := hR8.c1; have rf0 := hR8.f0; have rf1 := hR8.f1; have k0 := hR9.c0; have k1 := hR9.c1; clear hO7 hg7 hl7 hA7 hR7 hE7 hA8 hR8 hR9))
        exact bodyPost_ret (v := .agg #[.int .i64 xs, .slice p7 (S.length + 1) c7]) (by simp [results, Tryz.results29, go_sem, k0, k1]) rfl HE7.out
      · have HY : Hid (withS z S ⟨xn, xw, xs, xa, xt⟩ = S) := by show withS _ _ _ = _; rw [HYD.out, if_neg (fun h => hxz h.1)]
        have b1 : (xs == z) = false := by rw [beq_eq_false_iff_ne]; exact hxz
        clear HYD HAPP
        go_enter Tryz.func29, Tryz.ntmps29
        go_wp2_with (rw [← HW3.out])
        refine HCN'.mono ?_
        rintro e w5 ⟨rfl, hb5⟩
        have hat5 := HAT.out.below hb5
        clear a0 a1 af0 v2 hb5 HCN' HAT HW3
        have HE7 := HEND.out w5 z hat5 HZ.out HY.out
        have hR9 := (hat5.R.set0 (.int .i64 z)).set1 (.slice p S.length c)
        have a0 := hat5.A.c0
        have a1 := hat5.A.c1
        have v2 := hat5.V.c2
        have r0 := hat5.R.c0
        have r1 := hat5.R.c1
        have rf0 := hat5.R.f0
        have rf1 := hat5.R.f1
        have k0 := hR9.c0
        have k1 := hR9.c1
        have HE8 : Hid (WithOk B z S ⟨xn, xw, xs, xa, xt⟩ (.slice p S.length c) w (.returned (.agg #[.int .i64 z, .slice p S.length c])) ((w5.setCell ⟨w.heap.size + 1 + 1, 0, none⟩ (.int .i64 z)).setCell ⟨w.heap.size + 1 + 1, 1, none⟩ (.slice p S.length c))) := HE7
        clear hat5 hR9 HE7 HEND
        go_wp2
        exact bodyPost_ret (v := .agg #[.int .i64 z, .slice p S.length c]) (by simp [results, Tryz.results29, go_sem, k0, k1]) rfl HE8.out
end Go.Proofs.YtpjeibicopgedaaGreatDoor
