/- Acts on a hold, in memory; what they make of the model's list. -/
import Derived.Test.YtoapbjifkjehhaaGreatDoorHoldCW
namespace Go.Proofs.YtoapbjifkjehhaaGreatDoor
open Go.RowKit
/-- An act: its kind, a key, a version, a number. -/
structure HAct where
  kind : ByteArray
  key : ByteArray
  v : Ver
  n : Int
def actC (a : HAct) : List Value := .string a.kind :: .string a.key :: (verC a.v ++ [.int .i64 a.n])
def actE : Enc HAct := ⟨8, by decide, actC, fun _ => rfl, fun x u hu => by
  simp [actC, verC] at hu
  rcases hu with rfl | rfl | rfl | rfl | rfl | rfl | rfl | rfl <;> rfl⟩
def actAt (l : List HAct) (i : Nat) : HAct := l.getD i ⟨⟨#[]⟩, ⟨#[]⟩, ⟨0, 0, 0, 0, ⟨#[]⟩⟩, 0⟩
theorem actAt_get {l : List HAct} {i : Nat} (hi : i < l.length) : l[i]? = some (actAt l i) := by
  unfold actAt
  rw [List.getD_eq_getElem?_getD, List.getElem?_eq_getElem hi]
  rfl
theorem act_cells {w : World} {p : Option Addr} {l : List HAct} (h : Rec actE w p l) {i : Nat} (hi : i < l.length) : ∃ b o, p = some ⟨b, o, none⟩ ∧ b < w.heap.size ∧ w.cell? ⟨b, o + i * 8, none⟩ = some (.string (actAt l i).kind) ∧ w.cell? ⟨b, o + i * 8 + 1, none⟩ = some (.string (actAt l i).key) ∧ w.cell? ⟨b, o + i * 8 + 2, none⟩ = some (.int .i64 (actAt l i).v.n) ∧ w.cell? ⟨b, o + i * 8 + 3, none⟩ = some (.int .i64 (actAt l i).v.who) ∧ w.cell? ⟨b, o + i * 8 + 4, none⟩ = some (.int .i64 (actAt l i).v.size) ∧ w.cell? ⟨b, o + i * 8 + 5, none⟩ = some (.int .i64 (actAt l i).v.at_) ∧ w.cell? ⟨b, o + i * 8 + 6, none⟩ = some (.string (actAt l i).v.text) ∧ w.cell? ⟨b, o + i * 8 + 7, none⟩ = some (.int .i64 (actAt l i).n) := by
  rcases h with h | ⟨b, o, hp, hlt, hc⟩
  · rw [h] at hi; exact absurd hi (Nat.not_lt_zero _)
  · have hx := actAt_get hi
    exact ⟨b, o, hp, hlt, hc i _ hx 0 _ rfl, hc i _ hx 1 _ rfl, hc i _ hx 2 _ rfl, hc i _ hx 3 _ rfl, hc i _ hx 4 _ rfl, hc i _ hx 5 _ rfl, hc i _ hx 6 _ rfl, hc i _ hx 7 _ rfl⟩
theorem putScan_zero {L : List Kep} {key : ByteArray} {v : Ver} : ∀ (m i : Nat), putScan L key v i m = 0 → L.length < 60
  | 0, _, h => by
    have h' : (if 60 ≤ L.length then (7 : Int) else 0) = 0 := h
    by_cases hl : 60 ≤ L.length
    · rw [if_pos hl] at h'; cases h'
    · omega
  | m + 1, i, h => by
    have h' : (if sameTag (kepAt L i) key v then (if (kepAt L i).2 = v then (-1 : Int) else 6) else putScan L key v (i + 1) m) = 0 := h
    by_cases hs : sameTag (kepAt L i) key v = true
    · rw [if_pos hs] at h'
      split at h' <;> cases h'
    · rw [if_neg hs] at h'
      exact putScan_zero m (i + 1) h'
theorem putR_len {L : List Kep} {s : Bool} {key : ByteArray} {v : Ver} (h : L.length ≤ 800000) : (putR L s key v).2.length ≤ 800000 := by
  unfold putR
  by_cases h0 : putErr L s key v = 0
  · rw [if_pos h0]
    have hl : L.length < 60 := by
      unfold putErr at h0
      split at h0
      · cases h0
      · split at h0
        · split at h0
          · exact putScan_zero _ _ h0
          · cases h0
        · cases h0
    show (putL L key v).length ≤ 800000
    unfold putL
    rw [List.length_append, List.length_append, List.length_take, List.length_drop]
    show _ + 1 + _ ≤ _
    omega
  · rw [if_neg h0]
    split <;> exact h
theorem putR_names {L : List Kep} {s : Bool} {key : ByteArray} {v : Ver} (h : ∀ x ∈ L, x.1.size ≤ maxLen) (hk : key.size ≤ maxLen) : ∀ x ∈ (putR L s key v).2, x.1.size ≤ maxLen := by
  unfold putR
  split
  · intro x hx
    have hx' : x ∈ L.take (placeN L key v) ++ [(key, v)] ++ L.drop (placeN L key v) := hx
    rcases List.mem_append.1 hx' with h1 | h1
    · rcases List.mem_append.1 h1 with h2 | h2
      · exact h x (List.mem_of_mem_take h2)
      · rw [List.mem_singleton.1 h2]; exact hk
    · exact h x (List.mem_of_mem_drop h1)
  · split <;> exact h
theorem trimGo_subP (key : ByteArray) : ∀ (left : Nat) (L : List Kep), (trimGo key left L).length ≤ L.length ∧ ∀ x ∈ trimGo key left L, x ∈ L
  | _, [] => ⟨Nat.le_refl _, fun _ h => h⟩
  | left, y :: r => by
    by_cases hc : y.1 = key ∧ 0 < left
    · have e : trimGo key left (y :: r) = trimGo key (left - 1) r := if_pos hc
      rw [e]
      have ih := trimGo_subP key (left - 1) r
      exact ⟨Nat.le_trans ih.1 (Nat.le_succ _), fun x hx => List.mem_cons_of_mem _ (ih.2 x hx)⟩
    · have e : trimGo key left (y :: r) = y :: trimGo key left r := if_neg hc
      rw [e]
      have ih := trimGo_subP key left r
      refine ⟨Nat.succ_le_succ ih.1, fun x hx => ?_⟩
      rcases List.mem_cons.1 hx with rfl | h1
      · exact List.mem_cons_self
      · exact List.mem_cons_of_mem _ (ih.2 x h1)
end Go.Proofs.YtoapbjifkjehhaaGreatDoor
