/- How much was told. -/
import Derived.Test.YtobmckfcipeanaaGreatDoorZK
import Derived.Test.YtobmckfcipeanaaGreatDoorZA
namespace Go.Proofs.YtobmckfcipeanaaGreatDoor
open Go.RowKit
/-- An object that is long, and can be. -/
def bigV (v : Ver) : Bool := decide (200 < v.size ∧ v.size ≤ 1000)
/-- How much is told. -/
def tolN (L : List Ver) : Nat := (L.map fun v => 1 + v.text.size / 20).sum
theorem tolN_append (a b : List Ver) : tolN (a ++ b) = tolN a + tolN b := by simp [tolN]
theorem tolN_succ {L : List Ver} {j : Nat} (hj : j < L.length) : tolN (L.take (j + 1)) = tolN (L.take j) + (1 + (verAt L j).text.size / 20) := by
  rw [List.take_add_one, verAt_get hj, tolN_append]
  simp [tolN]
theorem tolN_take (L : List Ver) (j : Nat) : tolN (L.take j) ≤ tolN L := by
  have h : tolN L = tolN (L.take j) + tolN (L.drop j) := by rw [← tolN_append, List.take_append_drop]
  omega
theorem tolN_len (L : List Ver) : L.length ≤ tolN L := by
  induction L with
  | nil => exact Nat.le_refl _
  | cons v L ih =>
    have e : tolN (v :: L) = 1 + v.text.size / 20 + tolN L := by simp [tolN]
    rw [e, List.length_cons]
    omega
theorem big_succ {L : List Ver} {j : Nat} (hj : j < L.length) : (L.take (j + 1)).any bigV = ((L.take j).any bigV || bigV (verAt L j)) := by
  rw [List.take_add_one, verAt_get hj, List.any_append]
  simp
theorem big_of_at {L : List Ver} {j : Nat} (hj : j < L.length) (h : bigV (verAt L j) = true) : L.any bigV = true := by
  refine List.any_eq_true.2 ⟨_, ?_, h⟩
  have := verAt_get hj
  exact List.mem_of_getElem? this
/-- Too much to be tried. -/
def muchT (LL : List (List Ver)) : Bool := LL.flatten.any bigV || decide (200 < LL.length + tolN LL.flatten)
theorem tolN_flat {LL : List (List Ver)} {i : Nat} (hi : i < LL.length) : tolN (LL.take i).flatten + tolN (LL.getD i []) ≤ tolN LL.flatten := by
  rw [← tolN_append, ← flatten_take_succ hi]
  have h : LL.flatten = (LL.take (i + 1)).flatten ++ (LL.drop (i + 1)).flatten := by rw [← List.flatten_append, List.take_append_drop]
  rw [h, tolN_append]
  omega
theorem big_flat {LL : List (List Ver)} {i : Nat} (hi : i < LL.length) (h : (LL.getD i []).any bigV = true) : LL.flatten.any bigV = true := by
  obtain ⟨v, hv, hb⟩ := List.any_eq_true.1 h
  refine List.any_eq_true.2 ⟨v, List.mem_flatten.2 ⟨LL.getD i [], ?_, hv⟩, hb⟩
  rw [List.getD_eq_getElem?_getD, List.getElem?_eq_getElem hi]
  exact List.getElem_mem hi
end Go.Proofs.YtobmckfcipeanaaGreatDoor
/- What package quorum's Best is asked to answer. -/
namespace Go.Proofs.YtobmckfcipeanaaGreatDoor
open Go.RowKit
/-- Numbers that an int can be. -/
def VerI64 (v : Ver) : Prop := (-9223372036854775808 ≤ v.n ∧ v.n ≤ 9223372036854775807) ∧ (-9223372036854775808 ≤ v.who ∧ v.who ≤ 9223372036854775807) ∧ (-9223372036854775808 ≤ v.size ∧ v.size ≤ 9223372036854775807) ∧ -9223372036854775808 ≤ v.at_ ∧ v.at_ ≤ 9223372036854775807
/-- What Best tells: an error's number and place. -/
def bestE (c : Cfg) (LL : List (List Ver)) : Int × Int := if 0 < (cfgF c).1 then cfgF c else if c.n < (LL.length : Int) then (3, -1) else (0, -1)
/-- The tag, the object, and whether there is one. -/
def bestT (c : Cfg) (LL : List (List Ver)) : (Int × Int) × ByteArray × Bool := if 0 < (bestE c LL).1 then ((0, 0), ⟨#[]⟩, false) else bestF c.n.toNat c.k.toNat LL.flatten LL.flatten
structure BestOk (ad : Nat → Addr) (X : World → Prop) : Prop where
  best : ∀ (c : Cfg) (p : Option Addr) (cap : Nat) (LL : List (List Ver)) (pl : Option Addr) (cl : Nat) (w : World), CfgAt w c p cap → Vss w pl LL → muchT LL = false → (∀ v ∈ LL.flatten, VerI64 v) → ErrsQ w ad → X w → Calls Tryz.prog 28 #[cfgA c (.slice p c.L.length cap), .slice pl LL.length cl] w fun e w' => (∃ ev, e = .returned (.tuple #[.agg #[.int .i64 (bestT c LL).1.1, .int .i64 (bestT c LL).1.2], .string (bestT c LL).2.1, .bool (bestT c LL).2.2, ev]) ∧ ErrIs w' ad ev (bestE c LL).1 (bestE c LL).2) ∧ Below w.heap.size w w'
theorem bestE_bad {c : Cfg} {LL : List (List Ver)} (h : 0 < (cfgF c).1) : bestE c LL = cfgF c ∧ bestT c LL = ((0, 0), ⟨#[]⟩, false) := by
  have e : bestE c LL = cfgF c := if_pos h
  exact ⟨e, by unfold bestT; rw [e, if_pos h]⟩
theorem bestE_many {c : Cfg} {LL : List (List Ver)} (h : ¬ 0 < (cfgF c).1) (h2 : c.n < (LL.length : Int)) : bestE c LL = (3, -1) ∧ bestT c LL = ((0, 0), ⟨#[]⟩, false) := by
  have e : bestE c LL = (3, -1) := by unfold bestE; rw [if_neg h, if_pos h2]
  exact ⟨e, by unfold bestT; rw [e]; rfl⟩
theorem bestE_fine {c : Cfg} {LL : List (List Ver)} (h : ¬ 0 < (cfgF c).1) (h2 : ¬ c.n < (LL.length : Int)) : bestE c LL = (0, -1) ∧ bestT c LL = bestF c.n.toNat c.k.toNat LL.flatten LL.flatten := by
  have e : bestE c LL = (0, -1) := by unfold bestE; rw [if_neg h, if_neg h2]
  exact ⟨e, by unfold bestT; rw [e]; rfl⟩
theorem muchT_fine {LL : List (List Ver)} (h : muchT LL = false) : LL.length ≤ 200 ∧ LL.flatten.length ≤ 200 := by
  unfold muchT at h
  rw [Bool.or_eq_false_iff] at h
  have h2 := of_decide_eq_false h.2
  have := tolN_len LL.flatten
  omega
end Go.Proofs.YtobmckfcipeanaaGreatDoor
