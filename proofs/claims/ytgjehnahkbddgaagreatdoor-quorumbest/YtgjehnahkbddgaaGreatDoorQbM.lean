/- The best tag by what is greatest: what the fold over versions tells. -/
import Derived.Test.YtgjehnahkbddgaaGreatDoorZK
namespace Go.Proofs.YtgjehnahkbddgaaGreatDoor
open Go.RowKit
theorem less_iff {a b : Int × Int} : lessB a b = true ↔ a.1 < b.1 ∨ a.1 = b.1 ∧ a.2 < b.2 := by simp [lessB]
theorem less_trans {a b c : Int × Int} (h1 : lessB a b = true) (h2 : lessB b c = true) : lessB a c = true := by
  rw [less_iff] at *
  omega
theorem less_eq {a b : Int × Int} (h1 : lessB a b = false) (h2 : lessB b a = false) : a = b := by
  have n1 : ¬ (a.1 < b.1 ∨ a.1 = b.1 ∧ a.2 < b.2) := fun h => by rw [less_iff.2 h] at h1; cases h1
  have n2 : ¬ (b.1 < a.1 ∨ b.1 = a.1 ∧ b.2 < a.2) := fun h => by rw [less_iff.2 h] at h2; cases h2
  exact Prod.ext (by omega) (by omega)
/-- Shards enough of a tag. -/
def GoodT (n k : Nat) (all : List Ver) (t : Int × Int) : Prop := k ≤ (shOf n k t all).2.length
/-- What is decoded of a tag. -/
def decOf (n k : Nat) (all : List Ver) (t : Int × Int) : ByteArray := decT k (shOf n k t all).1.toNat (pickN k (shOf n k t all).2 (shOf n k t all).2.length)
/-- Who has shards was told. -/
theorem shOf_told {n k : Nat} {t : Int × Int} : ∀ (L : List Ver) (S : Int × List (Int × ByteArray)), (∀ v ∈ L, (v.n, v.who) ≠ t) → L.foldl (shStep n k t) S = S
  | [], _, _ => rfl
  | v :: L, S, h => by
    rw [List.foldl_cons, shStep_no (fun hh => h v (by simp) (Prod.ext hh.1 hh.2.1))]
    exact shOf_told L S fun u hu => h u (by simp [hu])
theorem good_told {n k : Nat} {all : List Ver} {t : Int × Int} (hk : 1 ≤ k) (h : GoodT n k all t) : ∃ v ∈ all, (v.n, v.who) = t := by
  by_cases hh : ∃ v ∈ all, (v.n, v.who) = t
  · exact hh
  · exfalso
    have e : shOf n k t all = (-1, []) := shOf_told all _ fun v hv e => hh ⟨v, hv, e⟩
    unfold GoodT at h
    rw [e] at h
    simp at h
    omega
/-- What holds behind some versions. -/
structure BestInv (n k : Nat) (all L : List Ver) (S : (Int × Int) × ByteArray × Bool) : Prop where
  no : S.2.2 = false → S = ((0, 0), ⟨#[]⟩, false) ∧ ∀ v ∈ L, ¬ GoodT n k all (v.n, v.who)
  yes : S.2.2 = true → GoodT n k all S.1 ∧ S.2.1 = decOf n k all S.1 ∧ ∀ v ∈ L, GoodT n k all (v.n, v.who) → lessB S.1 (v.n, v.who) = false
theorem bestInv_step {n k : Nat} {all L : List Ver} {S : (Int × Int) × ByteArray × Bool} (v : Ver) (h : BestInv n k all L S) : BestInv n k all (L ++ [v]) (bestStep n k all S v) := by
  by_cases h1 : S.2.2 = true ∧ lessB S.1 (v.n, v.who) = false
  · rw [bestStep_old h1]
    refine ⟨fun h2 => (by rw [h1.1] at h2; cases h2), fun h2 => ⟨(h.yes h2).1, (h.yes h2).2.1, fun u hu hg => ?_⟩⟩
    rcases List.mem_append.1 hu with e | e
    · exact (h.yes h2).2.2 u e hg
    · rw [List.mem_singleton.1 e]; exact h1.2
  · by_cases h2 : (shOf n k (v.n, v.who) all).2.length < k
    · rw [bestStep_few h1 h2]
      have hn : ¬ GoodT n k all (v.n, v.who) := by unfold GoodT; omega
      refine ⟨fun h3 => ⟨(h.no h3).1, fun u hu => ?_⟩, fun h3 => ⟨(h.yes h3).1, (h.yes h3).2.1, fun u hu hg => ?_⟩⟩
      · rcases List.mem_append.1 hu with e | e
        · exact (h.no h3).2 u e
        · rw [List.mem_singleton.1 e]; exact hn
      · rcases List.mem_append.1 hu with e | e
        · exact (h.yes h3).2.2 u e hg
        · rw [List.mem_singleton.1 e] at hg; exact absurd hg hn
    · rw [bestStep_new h1 h2]
      have hg : GoodT n k all (v.n, v.who) := by unfold GoodT; omega
      refine ⟨fun h3 => (by cases h3), fun _ => ⟨hg, rfl, fun u hu hgu => ?_⟩⟩
      rcases List.mem_append.1 hu with e | e
      · cases hs : S.2.2 with
        | false => exact absurd hgu ((h.no hs).2 u e)
        | true =>
          have hl : lessB S.1 (v.n, v.who) = true := by
            cases hl : lessB S.1 (v.n, v.who) with
            | true => rfl
            | false => exact absurd ⟨hs, hl⟩ h1
          cases hq : lessB (v.n, v.who) (u.n, u.who) with
          | false => rfl
          | true =>
            have := (h.yes hs).2.2 u e hgu
            rw [less_trans hl hq] at this
            cases this
      · rw [List.mem_singleton.1 e]
        show lessB (v.n, v.who) (v.n, v.who) = false
        simp [lessB]
theorem bestInv (n k : Nat) (all : List Ver) : ∀ i, i ≤ all.length → BestInv n k all (all.take i) (bestF n k all (all.take i))
  | 0, _ => ⟨fun _ => ⟨rfl, fun v hv => (by simp at hv)⟩, fun h => (by cases h)⟩
  | i + 1, hi => by
    have ih := bestInv_step (verAt all i) (bestInv n k all i (by omega))
    rw [bestF_succ (by omega)]
    have e : all.take (i + 1) = all.take i ++ [verAt all i] := by rw [List.take_add_one, verAt_get (by omega)]; rfl
    rw [e]
    exact ih
theorem best_none {n k : Nat} {all : List Ver} (h : ∀ v ∈ all, ¬ GoodT n k all (v.n, v.who)) : bestF n k all all = ((0, 0), ⟨#[]⟩, false) := by
  have hi := bestInv n k all all.length (Nat.le_refl _)
  rw [List.take_length] at hi
  cases hs : (bestF n k all all).2.2 with
  | false => exact (hi.no hs).1
  | true =>
    exfalso
    obtain ⟨h1, h2, h3⟩ := hi.yes hs
    by_cases hk : 1 ≤ k
    · obtain ⟨v, hv, e⟩ := good_told hk h1
      exact h v hv (by rw [e]; exact h1)
    · cases hall : all with
      | nil => rw [hall] at hs; cases hs
      | cons v r => exact h v (by rw [hall]; simp) (by unfold GoodT; omega)
theorem best_is {n k : Nat} {all : List Ver} {t : Int × Int} (hk : 1 ≤ k) (h : GoodT n k all t) (hmax : ∀ u, GoodT n k all u → lessB t u = false) : bestF n k all all = (t, decOf n k all t, true) := by
  have hi := bestInv n k all all.length (Nat.le_refl _)
  rw [List.take_length] at hi
  obtain ⟨v, hv, e⟩ := good_told hk h
  cases hs : (bestF n k all all).2.2 with
  | false => exact absurd h (by rw [← e]; exact (hi.no hs).2 v hv)
  | true =>
    obtain ⟨h1, h2, h3⟩ := hi.yes hs
    have e1 : (bestF n k all all).1 = t := less_eq (by have := h3 v hv (by rw [e]; exact h); rw [e] at this; exact this) (hmax _ h1)
    rw [e1] at h2
    exact Prod.ext e1 (Prod.ext h2 hs)
/-- No size is told where there are no shards. -/
theorem shOf_size {n k : Nat} {t : Int × Int} (L : List Ver) : ((shOf n k t L).1 < 0 ↔ (shOf n k t L).2 = []) := by
  have go : ∀ (L : List Ver) (S : Int × List (Int × ByteArray)), (S.1 < 0 ↔ S.2 = []) → ((L.foldl (shStep n k t) S).1 < 0 ↔ (L.foldl (shStep n k t) S).2 = []) := by
    intro L
    induction L with
    | nil => intro S h; exact h
    | cons v L ih =>
      intro S h
      rw [List.foldl_cons]
      refine ih _ ?_
      by_cases hy : v.n = t.1 ∧ v.who = t.2 ∧ canB n k v = true
      · have hc := hy.2.2
        unfold canB at hc
        rw [Bool.and_eq_true] at hc
        have c1 := (of_decide_eq_true hc.2).1
        by_cases hz : S.1 < 0
        · rw [shStep_yes (z := v.size) hy (by rw [if_pos hz]), h.1 hz]
          simp
          omega
        · rw [shStep_yes (z := S.1) hy (by rw [if_neg hz])]
          have hne : S.2 ≠ [] := fun e => hz (h.2 e)
          constructor
          · intro h2; exact absurd h2 hz
          · intro h2
            dsimp only at h2
            split at h2
            · simp at h2
            · exact absurd h2 hne
      · rw [shStep_no hy]
        exact h
  exact go L _ ⟨fun _ => rfl, fun _ => by decide⟩
theorem shOf_snoc {n k : Nat} {t : Int × Int} (L : List Ver) (v : Ver) : shOf n k t (L ++ [v]) = shStep n k t (shOf n k t L) v := by
  unfold shOf
  rw [List.foldl_append]
  rfl
end Go.Proofs.YtgjehnahkbddgaaGreatDoor
