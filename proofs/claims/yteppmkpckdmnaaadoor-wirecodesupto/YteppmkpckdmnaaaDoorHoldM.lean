/- What a node holds: versions by key and tag, as lists; what a model of it answers. -/
import Derived.Test.YteppmkpckdmnaaaDoorHoldB
import Derived.Test.YteppmkpckdmnaaaDoorNameM
namespace Go.Proofs.YteppmkpckdmnaaaDoor
open Go.RowKit
def lessB (a b : Int × Int) : Bool := decide (a.1 < b.1) || (decide (a.1 = b.1) && decide (a.2 < b.2))
theorem verinfo : (Tryd.prog.info? 50).map (fun i => (i.zero, i.size, i.bytes)) = some (some (.agg #[.int .i64 0, .int .i64 0, .int .i64 0, .int .i64 0, .string ⟨#[]⟩]), 5, 48) := by kernel_rfl
def verAt (L : List Ver) (i : Nat) : Ver := L.getD i ⟨0, 0, 0, 0, ⟨#[]⟩⟩
theorem verAt_get {L : List Ver} {i : Nat} (hi : i < L.length) : L[i]? = some (verAt L i) := by
  unfold verAt
  rw [List.getD_eq_getElem?_getD, List.getElem?_eq_getElem hi]
  rfl
theorem ver_ext {l m : List Ver} (hl : l.length = m.length) (h : ∀ i, i < l.length → verAt l i = verAt m i) : l = m := by
  refine List.ext_getElem? fun i => ?_
  by_cases hi : i < l.length
  · rw [verAt_get hi, verAt_get (show i < m.length by omega), h i hi]
  · rw [List.getElem?_eq_none (by omega), List.getElem?_eq_none (by omega)]
theorem ver_cells {w : World} {p : Option Addr} {L : List Ver} (h : Rec verE w p L) {i : Nat} (hi : i < L.length) : ∃ b o, p = some ⟨b, o, none⟩ ∧ b < w.heap.size ∧ w.cell? ⟨b, o + i * 5, none⟩ = some (.int .i64 (verAt L i).n) ∧ w.cell? ⟨b, o + i * 5 + 1, none⟩ = some (.int .i64 (verAt L i).who) ∧ w.cell? ⟨b, o + i * 5 + 2, none⟩ = some (.int .i64 (verAt L i).size) ∧ w.cell? ⟨b, o + i * 5 + 3, none⟩ = some (.int .i64 (verAt L i).at_) ∧ w.cell? ⟨b, o + i * 5 + 4, none⟩ = some (.string (verAt L i).text) := by
  rcases h with h | ⟨b, o, hp, hlt, hc⟩
  · rw [h] at hi; exact absurd hi (Nat.not_lt_zero _)
  · have hx := verAt_get hi
    exact ⟨b, o, hp, hlt, hc i _ hx 0 _ rfl, hc i _ hx 1 _ rfl, hc i _ hx 2 _ rfl, hc i _ hx 3 _ rfl, hc i _ hx 4 _ rfl⟩
/-- Numbers that a tag can have. -/
def tagB (n who : Int) : Bool := decide (0 ≤ n) && decide (n ≤ 1099511627776) && decide (0 ≤ who) && decide (who ≤ 1099511627776)
/-- Can a version be? -/
def verOk (v : Ver) : Bool := tagB v.n v.who && decide (0 ≤ v.size ∧ v.size ≤ 1000 ∧ 0 ≤ v.at_ ∧ v.at_ < 12 ∧ v.text.size ≤ 1000)
def sameTag (x : Kep) (key : ByteArray) (v : Ver) : Bool := decide (x.1 = key) && decide (x.2.n = v.n) && decide (x.2.who = v.who)
/-- The m kept ones from i on: is one there with this tag? -/
def putScan (L : List Kep) (key : ByteArray) (v : Ver) : Nat → Nat → Int
  | _, 0 => if 60 ≤ L.length then 7 else 0
  | i, m + 1 => if sameTag (kepAt L i) key v then (if (kepAt L i).2 = v then -1 else 6) else putScan L key v (i + 1) m
/-- An error's number; -1: the same one is there. -/
def putErr (L : List Kep) (s : Bool) (key : ByteArray) (v : Ver) : Int := if s then 10 else if isN key then (if verOk v then putScan L key v 0 L.length else 2) else 4
theorem putScan_at {L : List Kep} {key : ByteArray} {v : Ver} {i : Nat} (hi : i < L.length) : putScan L key v i (L.length - i) = if sameTag (kepAt L i) key v then (if (kepAt L i).2 = v then -1 else 6) else putScan L key v (i + 1) (L.length - (i + 1)) := by
  rw [show L.length - i = (L.length - (i + 1)) + 1 by omega]
  rfl
/-- The keys of the first i kept ones, each where it is another one than the last. -/
def keysTo (L : List Kep) : Nat → List ByteArray
  | 0 => []
  | i + 1 => if (keysTo L i).length = 0 ∨ txt (keysTo L i) ((keysTo L i).length - 1) ≠ (kepAt L i).1 then keysTo L i ++ [(kepAt L i).1] else keysTo L i
theorem keysTo_le (L : List Kep) : ∀ i, (keysTo L i).length ≤ i
  | 0 => Nat.zero_le _
  | i + 1 => by
    have ih := keysTo_le L i
    show (if _ then _ else _ : List ByteArray).length ≤ i + 1
    split
    · rw [List.length_append]
      show _ + 1 ≤ _
      omega
    · omega
theorem keysTo_new {L : List Kep} {i : Nat} (h : (keysTo L i).length = 0 ∨ txt (keysTo L i) ((keysTo L i).length - 1) ≠ (kepAt L i).1) : keysTo L (i + 1) = keysTo L i ++ [(kepAt L i).1] := if_pos h
theorem keysTo_old {L : List Kep} {i : Nat} (h : ¬ ((keysTo L i).length = 0 ∨ txt (keysTo L i) ((keysTo L i).length - 1) ≠ (kepAt L i).1)) : keysTo L (i + 1) = keysTo L i := if_neg h
/-- Those of a key go, as many as left, from the first on. -/
def trimGo (key : ByteArray) : Nat → List Kep → List Kep
  | _, [] => []
  | left, x :: r => if x.1 = key ∧ 0 < left then trimGo key (left - 1) r else x :: trimGo key left r
theorem trimGo_at {L : List Kep} {key : ByteArray} {left i : Nat} (hi : i < L.length) : trimGo key left (L.drop i) = if (kepAt L i).1 = key ∧ 0 < left then trimGo key (left - 1) (L.drop (i + 1)) else kepAt L i :: trimGo key left (L.drop (i + 1)) := by
  have e : L.drop i = kepAt L i :: L.drop (i + 1) := by
    rw [List.drop_eq_getElem_cons hi]
    have := kepAt_get hi
    rw [List.getElem?_eq_getElem hi] at this
    rw [Option.some.inj this]
  rw [e]
  rfl
/-- How many go. -/
def goneN (L : List Kep) (key : ByteArray) (keep : Int) : Nat := ((getL L key).length - keep).toNat
def trimL (L : List Kep) (key : ByteArray) (keep : Int) : List Kep := trimGo key (goneN L key keep) L
/-- Does a kept one stand ahead of a version of a key? -/
def beforeB (x : Kep) (key : ByteArray) (v : Ver) : Bool := Op.bytesLess x.1.toList key.toList || (decide (x.1 = key) && lessB (x.2.n, x.2.who) (v.n, v.who))
/-- Where it goes in. -/
def placeN (L : List Kep) (key : ByteArray) (v : Ver) : Nat := L.findIdx fun x => !beforeB x key v
theorem placeN_at {L : List Kep} {key : ByteArray} {v : Ver} {k : Nat} (hk : k < L.length) (hall : ∀ j, j < k → beforeB (kepAt L j) key v = true) (h : beforeB (kepAt L k) key v = false) : placeN L key v = k := by
  have e : ∀ j (hj : j < L.length), L[j] = kepAt L j := fun j hj => by
    have := kepAt_get hj
    rw [List.getElem?_eq_getElem hj] at this
    exact Option.some.inj this
  unfold placeN
  rw [List.findIdx_eq hk]
  refine ⟨by rw [e k hk, h]; rfl, fun j hj => by rw [e j (by omega), hall j hj]; rfl⟩
theorem placeN_end {L : List Kep} {key : ByteArray} {v : Ver} (hall : ∀ j, j < L.length → beforeB (kepAt L j) key v = true) : placeN L key v = L.length := by
  unfold placeN
  rw [List.findIdx_eq_length]
  intro x hx
  obtain ⟨j, hj, rfl⟩ := List.getElem_of_mem hx
  have := kepAt_get hj
  rw [List.getElem?_eq_getElem hj] at this
  rw [Option.some.inj this, hall j hj]
  rfl
theorem placeN_le (L : List Kep) (key : ByteArray) (v : Ver) : placeN L key v ≤ L.length := List.findIdx_le_length
def putL (L : List Kep) (key : ByteArray) (v : Ver) : List Kep := L.take (placeN L key v) ++ [(key, v)] ++ L.drop (placeN L key v)
theorem placeN_before {L : List Kep} {key : ByteArray} {v : Ver} {j : Nat} (hj : j < placeN L key v) : beforeB (kepAt L j) key v = true := by
  have hlt : j < L.length := Nat.lt_of_lt_of_le hj (placeN_le L key v)
  have h := List.not_of_lt_findIdx (p := fun x => !beforeB x key v) (xs := L) (i := j) hj
  have e : L[j] = kepAt L j := by
    have := kepAt_get hlt
    rw [List.getElem?_eq_getElem hlt] at this
    exact Option.some.inj this
  rw [e] at h
  simpa using h
theorem placeN_here {L : List Kep} {key : ByteArray} {v : Ver} (hk : placeN L key v < L.length) : beforeB (kepAt L (placeN L key v)) key v = false := by
  have h := List.findIdx_getElem (p := fun x => !beforeB x key v) (xs := L) (w := hk)
  have e : L[placeN L key v] = kepAt L (placeN L key v) := by
    have := kepAt_get hk
    rw [List.getElem?_eq_getElem hk] at this
    exact Option.some.inj this
  have h2 : (!beforeB L[placeN L key v] key v) = true := h
  rw [e] at h2
  simpa using h2
/-- What Put answers, and what is held then. -/
def putR (L : List Kep) (s : Bool) (key : ByteArray) (v : Ver) : Int × List Kep := if putErr L s key v = 0 then (0, putL L key v) else if putErr L s key v < 0 then (0, L) else (putErr L s key v, L)
/-- The error ev is number c, bare. -/
def BareIs (ad : Nat → Addr) (ev : Value) (c : Int) : Prop := (ev = .nilIface ∧ c = 0) ∨ ∃ i, i < 12 ∧ ev = .iface 124 (.pointer (some (ad i))) ∧ c = ((i + 1 : Nat) : Int)
/-- The tag of the last of versions; of none 0. -/
def lastT (l : List Ver) : Int × Int := ((verAt l (l.length - 1)).n, (verAt l (l.length - 1)).who)
/-- From w to w' nothing that was there is written but the blocks of S; those of S' are of S, or new. -/
structure Upd (S S' : Nat → Prop) (w w' : World) : Prop where
  os : w'.os = w.os
  tape : w'.tape = w.tape
  output : w'.output = w.output
  size : w.heap.size ≤ w'.heap.size
  block : ∀ k, k < w.heap.size → ¬ S k → w'.heap[k]? = w.heap[k]?
  new : ∀ k, S' k → S k ∨ w.heap.size ≤ k
theorem Upd.of_below {S : Nat → Prop} {w w' : World} (hb : Below w.heap.size w w') : Upd S S w w' := ⟨hb.os, hb.tape, hb.output, hb.size, fun k hk _ => hb.block k hk, fun _ h => Or.inl h⟩
def verA (v : Ver) : Value := .agg #[.int .i64 v.n, .int .i64 v.who, .int .i64 v.size, .int .i64 v.at_, .string v.text]
end Go.Proofs.YteppmkpckdmnaaaDoor
