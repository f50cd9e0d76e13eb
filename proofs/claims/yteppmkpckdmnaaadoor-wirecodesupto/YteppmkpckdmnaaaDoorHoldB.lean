/- What a node's model holds, in memory. -/
import Derived.Test.YteppmkpckdmnaaaDoorRecB
import Derived.Test.YteppmkpckdmnaaaDoorStrsB
namespace Go.Proofs.YteppmkpckdmnaaaDoor
open Go.RowKit
/-- A version: its tag's number and maker, the object's size, the shard's number and text. -/
structure Ver where
  n : Int
  who : Int
  size : Int
  at_ : Int
  text : ByteArray
deriving DecidableEq
def verC (v : Ver) : List Value := [.int .i64 v.n, .int .i64 v.who, .int .i64 v.size, .int .i64 v.at_, .string v.text]
def verE : Enc Ver := ⟨5, by decide, verC, fun _ => rfl, fun x u hu => by simp [verC] at hu; rcases hu with rfl | rfl | rfl | rfl | rfl <;> rfl⟩
/-- A version with its key. -/
abbrev Kep := ByteArray × Ver
def kepE : Enc Kep := ⟨6, by decide, fun x => .string x.1 :: verC x.2, fun _ => rfl, fun x u hu => by simp [verC] at hu; rcases hu with rfl | rfl | rfl | rfl | rfl | rfl <;> rfl⟩
/-- In the world w the model's hold at block h has L, and is sealed or not. -/
structure MHold (w : World) (h : Nat) (L : List Kep) (s : Bool) : Prop where
  row : ∃ p c, w.cell? ⟨h, 0, none⟩ = some (.slice p L.length c) ∧ Rec kepE w p L ∧ L.length ≤ c ∧ (p = none → L = [] ∧ c = 0) ∧ ∀ b o, p = some ⟨b, o, none⟩ → b ≠ h
  sealed_ : w.cell? ⟨h, 1, none⟩ = some (.bool s)
  free0 : w.frozen? ⟨h, 0, none⟩ = false
  free1 : w.frozen? ⟨h, 1, none⟩ = false
theorem lt_of_cellH {w : World} {b o : Nat} {v : Value} (h : w.cell? ⟨b, o, none⟩ = some v) : b < w.heap.size := by
  rcases Nat.lt_or_ge b w.heap.size with h' | h'
  · exact h'
  · simp [World.cell?, Array.getElem?_eq_none h'] at h
theorem MHold.below {w w' : World} {h : Nat} {L : List Kep} {s : Bool} (hm : MHold w h L s) (hb : Below w.heap.size w w') : MHold w' h L s := by
  obtain ⟨p, c, h1, h2, h3, h4, h5⟩ := hm.row
  have hlt := lt_of_cellH h1
  exact ⟨⟨p, c, (hb.cell (p := ⟨h, 0, none⟩) hlt).trans h1, h2.below hb, h3, h4, h5⟩, (hb.cell (p := ⟨h, 1, none⟩) hlt).trans hm.sealed_, (hb.frozen (p := ⟨h, 0, none⟩) hlt).trans hm.free0, (hb.frozen (p := ⟨h, 1, none⟩) hlt).trans hm.free1⟩
/-- The versions of a key, in their order. -/
def getL (L : List Kep) (key : ByteArray) : List Ver := (L.filter fun x => decide (x.1 = key)).map Prod.snd
def kepAt (L : List Kep) (i : Nat) : Kep := L.getD i (⟨#[]⟩, ⟨0, 0, 0, 0, ⟨#[]⟩⟩)
theorem kepAt_get {L : List Kep} {i : Nat} (hi : i < L.length) : L[i]? = some (kepAt L i) := by
  unfold kepAt
  rw [List.getD_eq_getElem?_getD, List.getElem?_eq_getElem hi]
  rfl
theorem take_succ_kep {L : List Kep} {i : Nat} (hi : i < L.length) : L.take (i + 1) = L.take i ++ [kepAt L i] := by
  rw [List.take_add_one, kepAt_get hi]
  rfl
theorem getL_succ_yes {L : List Kep} {i : Nat} {key : ByteArray} (hi : i < L.length) (h : (kepAt L i).1 = key) : getL (L.take (i + 1)) key = getL (L.take i) key ++ [(kepAt L i).2] := by
  unfold getL
  rw [take_succ_kep hi, List.filter_append, List.filter_cons_of_pos (by simpa using h), List.filter_nil, List.map_append]
  rfl
theorem getL_succ_no {L : List Kep} {i : Nat} {key : ByteArray} (hi : i < L.length) (h : (kepAt L i).1 ≠ key) : getL (L.take (i + 1)) key = getL (L.take i) key := by
  unfold getL
  rw [take_succ_kep hi, List.filter_append, List.filter_cons_of_neg (by simpa using h), List.filter_nil, List.append_nil]
theorem getL_le (L : List Kep) (key : ByteArray) : (getL L key).length ≤ L.length := by
  unfold getL
  rw [List.length_map]
  exact List.length_filter_le _ _
/-- The six cells of a kept version. -/
theorem kep_cells {w : World} {p : Option Addr} {L : List Kep} (h : Rec kepE w p L) {i : Nat} (hi : i < L.length) : ∃ b o, p = some ⟨b, o, none⟩ ∧ b < w.heap.size ∧ w.cell? ⟨b, o + i * 6, none⟩ = some (.string (kepAt L i).1) ∧ w.cell? ⟨b, o + i * 6 + 1, none⟩ = some (.int .i64 (kepAt L i).2.n) ∧ w.cell? ⟨b, o + i * 6 + 2, none⟩ = some (.int .i64 (kepAt L i).2.who) ∧ w.cell? ⟨b, o + i * 6 + 3, none⟩ = some (.int .i64 (kepAt L i).2.size) ∧ w.cell? ⟨b, o + i * 6 + 4, none⟩ = some (.int .i64 (kepAt L i).2.at_) ∧ w.cell? ⟨b, o + i * 6 + 5, none⟩ = some (.string (kepAt L i).2.text) := by
  rcases h with h | ⟨b, o, hp, hlt, hc⟩
  · rw [h] at hi; exact absurd hi (Nat.not_lt_zero _)
  · have hx := kepAt_get hi
    exact ⟨b, o, hp, hlt, hc i _ hx 0 _ rfl, hc i _ hx 1 _ rfl, hc i _ hx 2 _ rfl, hc i _ hx 3 _ rfl, hc i _ hx 4 _ rfl, hc i _ hx 5 _ rfl⟩
end Go.Proofs.YteppmkpckdmnaaaDoor
