import Derived.Test.YtobmckfcipeanaaGreatDoorZK
import Derived.Test.YtobmckfcipeanaaGreatDoorZA
namespace Go.Proofs.YtobmckfcipeanaaGreatDoor
open Go.RowKit
def bigV (v : Ver) : Bool := decide (200 < v.size /\ v.size <= 1000)
def tolN (L : List Ver) : Nat := (L.map fun v => 1 + v.text.size / 20).sum
theorem big_succ {L : List Ver} {j : Nat} (hj : j < L.length) : (L.take (j + 1)).any bigV = ((L.take j).any bigV || bigV (verAt L j)) := by
 rw [List.take_add_one, verAt_get hj, List.any_append]
 simp
theorem big_of_at {L : List Ver} {j : Nat} (hj : j < L.length) (h : bigV (verAt L j) = true) : L.any bigV = true := by
 refine List.any_eq_true.2 ⟨_, ?_, h⟩
 have := verAt_get hj
 exact List.mem_of_getElem? this
def VerI64 (v : Ver) : Prop := (-9223372036854775808 <= v.n /\ v.n <= 9223372036854775807) /\ (-9223372036854775808 <= v.who /\ v.who <= 9223372036854775807) /\ (-9223372036854775808 <= v.size /\ v.size <= 9223372036854775807) /\ -9223372036854775808 <= v.at_ /\ v.at_ <= 9223372036854775807
def bestE (c : Cfg) (LL : List (List Ver)) : Int × Int := if 0 < (cfgF c).1 then cfgF c else if c.n < (LL.length : Int) then (3, -1) else (0, -1)
def bestT (c : Cfg) (LL : List (List Ver)) : (Int × Int) × ByteArray × Bool := if 0 < (bestE c LL).1 then ((0, 0), ⟨#[]⟩, false) else bestF c.n.toNat c.k.toNat LL.flatten LL.flatten
theorem bestE_bad {c : Cfg} {LL : List (List Ver)} (h : 0 < (cfgF c).1) : bestE c LL = cfgF c /\ bestT c LL = ((0, 0), ⟨#[]⟩, false) := by
 have e : bestE c LL = cfgF c := if_pos h
 exact ⟨e, by unfold bestT; rw [e, if_pos h]⟩
theorem bestE_many {c : Cfg} {LL : List (List Ver)} (h : ¬ 0 < (cfgF c).1) (h2 : c.n < (LL.length : Int)) : bestE c LL = (3, -1) /\ bestT c LL = ((0, 0), ⟨#[]⟩, false) := by
 have e : bestE c LL = (3, -1) := by unfold bestE; rw [if_neg h, if_pos h2]
 exact ⟨e, by unfold bestT; rw [e]; rfl⟩
theorem bestE_fine {c : Cfg} {LL : List (List Ver)} (h : ¬ 0 < (cfgF c).1) (h2 : ¬ c.n < (LL.length : Int)) : bestE c LL = (0, -1) /\ bestT c LL = bestF c.n.toNat c.k.toNat LL.flatten LL.flatten := by
 have e : bestE c LL = (0, -1) := by unfold bestE; rw [if_neg h, if_neg h2]
 exact ⟨e, by unfold bestT; rw [e]; rfl⟩
end Go.Proofs.YtobmckfcipeanaaGreatDoor
