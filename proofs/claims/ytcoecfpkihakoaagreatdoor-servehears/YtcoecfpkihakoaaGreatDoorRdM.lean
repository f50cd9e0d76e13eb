/- How what a node holds is written as a text, and read again. -/
import Derived.Test.YtcoecfpkihakoaaGreatDoorHdM
import Derived.Test.YtcoecfpkihakoaaGreatDoorGz5
import Derived.Lib.AtoiAll
import Derived.Lib.ItoaNum
import Derived.Lib.IndexMore
namespace Go.Proofs.YtcoecfpkihakoaaGreatDoor
open Go.RowKit
/-! how what is held is written -/
def wrN (n : Int) : List UInt8 := Lib.itoa n ++ [58]
def wrT (s : ByteArray) : List UInt8 := wrN (s.size : Int) ++ s.data.toList
def wrK (x : Kep) : List UInt8 := wrT x.1 ++ (wrN x.2.n ++ (wrN x.2.who ++ (wrN x.2.size ++ (wrN x.2.at_ ++ wrT x.2.text))))
def wrL (L : List Kep) : List UInt8 := L.flatMap wrK
def wrote (L : List Kep) (s : Bool) : List UInt8 := wrN (if s then 1 else 0) ++ wrL L
/-! how it is read: what is left, and whether it has failed -/
def numF (r : ByteArray) (f : Bool) : Int × ByteArray × Bool :=
  match Lib.atoiAll (Lib.cut r.data.toList [58]).1 with
  | .ok n => if (Lib.cut r.data.toList [58]).2.2 then (n, ofL (Lib.cut r.data.toList [58]).2.1, f) else (0, ofL [], true)
  | _ => (0, ofL [], true)
def textF (r : ByteArray) (f : Bool) : ByteArray × ByteArray × Bool :=
  if (numF r f).1 < 0 ∨ ((numF r f).2.1.size : Int) < (numF r f).1 then (ofL [], ofL [], true)
  else ((numF r f).2.1.extract 0 (numF r f).1.toNat, (numF r f).2.1.extract (numF r f).1.toNat (numF r f).2.1.size, (numF r f).2.2)
def verF (r : ByteArray) (f : Bool) : (ByteArray × Ver) × ByteArray × Bool :=
  let k := textF r f
  let a := numF k.2.1 k.2.2
  let b := numF a.2.1 a.2.2
  let c := numF b.2.1 b.2.2
  let d := numF c.2.1 c.2.2
  let t := textF d.2.1 d.2.2
  ((k.1, ⟨a.1, b.1, c.1, d.1, t.1⟩), t.2.1, t.2.2)
theorem dig_ok : ∀ (u : Nat) (l : List UInt8), u < 9223372036854775808 → Lib.parseUint10 0 (Lib.decDigits u ++ l) = Lib.parseUint10 u l := by
  intro u
  induction u using Nat.strongRecOn with
  | ind u ih =>
    intro l hu
    rw [Lib.decDigits]
    split
    · rename_i h
      rw [List.singleton_append]
      have e : (UInt8.ofNat (48 + u)).toNat = 48 + u := by rw [UInt8.toNat_ofNat']; exact Nat.mod_eq_of_lt (by omega)
      rw [Lib.parseUint10, e, if_pos (by omega), if_neg (by omega), if_neg (by omega)]
      congr 1
      omega
    · rename_i h
      rw [List.append_assoc, ih (u / 10) (by omega) _ (by omega), List.singleton_append]
      have e : (UInt8.ofNat (48 + u % 10)).toNat = 48 + u % 10 := by rw [UInt8.toNat_ofNat']; exact Nat.mod_eq_of_lt (by omega)
      rw [Lib.parseUint10, e, if_pos (by omega), if_neg (by omega), if_neg (by omega)]
      congr 1
      omega
theorem dig_mem : ∀ (u : Nat), ∀ c ∈ Lib.decDigits u, 48 ≤ c.toNat ∧ c.toNat ≤ 57 := by
  intro u
  induction u using Nat.strongRecOn with
  | ind u ih =>
    intro c hc
    rw [Lib.decDigits] at hc
    split at hc
    · rename_i h
      rw [List.mem_singleton.1 hc, UInt8.toNat_ofNat', Nat.mod_eq_of_lt (by omega)]
      omega
    · rename_i h
      rcases List.mem_append.1 hc with h1 | h1
      · exact ih (u / 10) (by omega) c h1
      · rw [List.mem_singleton.1 h1, UInt8.toNat_ofNat', Nat.mod_eq_of_lt (by omega)]
        omega
theorem dig_ne (u : Nat) : Lib.decDigits u ≠ [] := by
  rw [Lib.decDigits]
  split
  · simp
  · simp
theorem atoi_dig {u : Nat} (hu : u < 9223372036854775808) : Lib.atoiAll (Lib.decDigits u) = .ok (u : Int) := by
  have hm := dig_mem u
  have hp : Lib.parseUint10 0 (Lib.decDigits u) = .ok u := by
    have := dig_ok u [] hu
    rw [List.append_nil] at this
    rw [this]
    rfl
  have hne := dig_ne u
  cases hd : Lib.decDigits u with
  | nil => exact absurd hd hne
  | cons c r =>
    rw [hd] at hm hp
    have hc := hm c (by simp)
    have h1 : ¬ (c.toNat = 43 ∨ c.toNat = 45) := by omega
    have h2 : ¬ c.toNat = 45 := by omega
    unfold Lib.atoiAll
    simp only [if_neg h1]
    unfold Lib.parseMag
    rw [if_neg (by simp), hp]
    simp only [h2]
    simp
    omega
theorem cut_colon {a b : List UInt8} (ha : ∀ c ∈ a, c ≠ 58) : Lib.cut (a ++ 58 :: b) [58] = (a, b, true) := by
  have hi : Lib.index (a ++ 58 :: b) [58] = (a.length : Int) := by
    refine Lib.index_first (by simp) ?_ ?_
    · unfold Lib.occAt
      rw [List.drop_left]
      rfl
    · intro j hj
      unfold Lib.occAt
      rw [List.drop_append_of_le_length (by omega), List.drop_eq_getElem_cons hj]
      show (58 == a[j] && _) = false
      have := ha a[j] (List.getElem_mem hj)
      simp [Ne.symm this]
  unfold Lib.cut
  rw [hi, if_pos (by omega)]
  simp
theorem numF_wr {n : Int} (h0 : 0 ≤ n) (h1 : n ≤ 9223372036854775807) (b : List UInt8) (f : Bool) : numF (ofL (wrN n ++ b)) f = (n, ofL b, f) := by
  obtain ⟨u, rfl⟩ : ∃ u : Nat, n = u := ⟨n.toNat, by omega⟩
  have hi : Lib.itoa (u : Int) = Lib.decDigits u := by unfold Lib.itoa; rw [if_neg (by omega)]; simp
  unfold numF
  rw [ofL_data]
  have e : wrN (u : Int) ++ b = Lib.decDigits u ++ 58 :: b := by unfold wrN; rw [hi]; simp
  rw [e, cut_colon (fun c hc e => by have := dig_mem u c hc; rw [e] at this; exact absurd this.2 (by decide))]
  simp only []
  rw [atoi_dig (by omega)]
  rfl
theorem textF_wr {s : ByteArray} (hs : s.size ≤ 9223372036854775807) (b : List UInt8) (f : Bool) : textF (ofL (wrT s ++ b)) f = (s, ofL b, f) := by
  unfold textF wrT
  rw [List.append_assoc, numF_wr (by omega) (by omega)]
  have hsz : (ofL (s.data.toList ++ b)).size = s.size + b.length := by
    rw [ofL_size, List.length_append]
    rfl
  have hl : s.data.toList.length = s.size := by simp
  rw [if_neg (by simp only []; rw [hsz]; omega)]
  simp only [Int.toNat_natCast]
  have e1 := ofL_left s.data.toList b
  have e2 := ofL_right s.data.toList b
  rw [hl] at e1 e2
  rw [e1, e2, ofL_self]
theorem verF_wr {x : Kep} (hk : isN x.1 = true) (hv : verOk x.2 = true) (b : List UInt8) (f : Bool) : verF (ofL (wrK x ++ b)) f = (x, ofL b, f) := by
  have hk1 := isN_size hk
  unfold verOk tagB at hv
  simp only [Bool.and_eq_true, decide_eq_true_eq] at hv
  unfold verF wrK
  simp only [List.append_assoc]
  rw [textF_wr (by omega)]
  simp only []
  rw [numF_wr (by omega) (by omega)]
  simp only []
  rw [numF_wr (by omega) (by omega)]
  simp only []
  rw [numF_wr (by omega) (by omega)]
  simp only []
  rw [numF_wr (by omega) (by omega)]
  simp only []
  rw [textF_wr (by omega)]
/-! what is read is less than there was -/
theorem cut_shorter {l : List UInt8} (h : (Lib.cut l [58]).2.2 = true) : (Lib.cut l [58]).2.1.length < l.length := by
  unfold Lib.cut at h ⊢
  split at h
  · rename_i h0
    rw [if_pos h0]
    have := Lib.index_room l [58] h0
    simp only [List.length_drop, List.length_cons, List.length_nil] at this ⊢
    omega
  · cases h
theorem numF_shorter {r : ByteArray} {f : Bool} (h : (numF r f).2.2 = false) : (numF r f).2.1.size < r.size ∧ f = false := by
  unfold numF at h ⊢
  split
  · rename_i n hn
    rw [hn] at h
    simp only [] at h
    split
    · rename_i hc
      rw [if_pos hc] at h
      have := cut_shorter hc
      rw [ofL_size]
      exact ⟨this, h⟩
    · rename_i hc
      rw [if_neg hc] at h
      cases h
  · rename_i hn
    split at h
    · rename_i n hn'
      exact absurd hn' (hn n)
    · cases h
theorem textF_shorter {r : ByteArray} {f : Bool} (h : (textF r f).2.2 = false) : (textF r f).2.1.size < r.size ∧ f = false := by
  unfold textF at h ⊢
  split at h
  · cases h
  · rename_i hc
    rw [if_neg hc]
    have := numF_shorter h
    refine ⟨Nat.lt_of_le_of_lt ?_ this.1, this.2⟩
    simp only [ByteArray.size_extract]
    omega
theorem verF_shorter {r : ByteArray} (h : (verF r false).2.2 = false) : (verF r false).2.1.size < r.size := by
  unfold verF at h ⊢
  simp only [] at h ⊢
  obtain ⟨h1, e1⟩ := textF_shorter h
  obtain ⟨h2, e2⟩ := numF_shorter e1
  obtain ⟨h3, e3⟩ := numF_shorter e2
  obtain ⟨h4, e4⟩ := numF_shorter e3
  obtain ⟨h5, e5⟩ := numF_shorter e4
  obtain ⟨h6, _⟩ := textF_shorter e5
  omega
/-! what is kept in order is put again, one behind the other -/
structure GoodL (L : List Kep) : Prop where
  sorted : SortedK L
  few : L.length ≤ 60
  fits : ∀ x ∈ L, isN x.1 = true ∧ verOk x.2 = true
theorem GoodL.nil : GoodL [] := ⟨List.Pairwise.nil, by simp, fun _ h => by cases h⟩
theorem GoodL.put {L : List Kep} (h : GoodL L) {s : Bool} {key : ByteArray} {v : Ver} (h0 : putErr L s key v = 0) : GoodL (putL L key v) ∧ (∀ x ∈ getL L key, tagOf x ≠ tagOf v) ∧ s = false ∧ isN key = true ∧ verOk v = true ∧ L.length < 60 := by
  unfold putErr at h0
  split at h0
  · cases h0
  · rename_i hs
    split at h0
    · rename_i hn
      split at h0
      · rename_i hv
        have hnone : ∀ x ∈ getL L key, tagOf x ≠ tagOf v := fun x hx ht => by
          rw [putScan_there h.sorted hx ht] at h0
          split at h0 <;> cases h0
        rw [putScan_none hnone L.length 0 (by omega)] at h0
        have hlt : L.length < 60 := by
          refine Classical.byContradiction fun hc => ?_
          rw [if_pos (by omega)] at h0
          cases h0
        refine ⟨⟨putL_sorted h.sorted hnone, by rw [putL_length]; omega, fun x hx => ?_⟩, hnone, by simpa using hs, hn, hv, hlt⟩
        rcases mem_putL.1 hx with h1 | h1
        · exact h.fits x h1
        · rw [h1]; exact ⟨hn, hv⟩
      · cases h0
    · cases h0
theorem GoodL.trim {L : List Kep} (h : GoodL L) (key : ByteArray) (n : Nat) : GoodL (trimGo key n L) := ⟨trimL_sorted h.sorted key n, Nat.le_trans (trimGo_sub key L n).length_le h.few, fun x hx => h.fits x ((trimGo_sub key L n).subset hx)⟩
theorem put_next {L : List Kep} (h : GoodL L) {i : Nat} (hi : i < L.length) : putR (L.take i) false (kepAt L i).1 (kepAt L i).2 = (0, L.take (i + 1)) := by
  have hf := h.fits (kepAt L i) (List.mem_of_getElem? (kepAt_get hi))
  have hs : SortedK (L.take (i + 1)) := List.Pairwise.sublist (List.take_sublist _ _) h.sorted
  rw [take_succ_kep hi] at hs
  obtain ⟨hs1, _, hs2⟩ := List.pairwise_append.1 hs
  have hb : ∀ y ∈ L.take i, beforeB y (kepAt L i).1 (kepAt L i).2 = true := fun y hy => hs2 y hy _ (by simp)
  have hnone : ∀ x ∈ getL (L.take i) (kepAt L i).1, tagOf x ≠ tagOf (kepAt L i).2 := fun x hx ht => by
    rcases before_iff.1 (hb _ (mem_getL.1 hx)) with h1 | ⟨_, h1⟩
    · exact kl_irrefl _ h1
    · rw [ht, lessB_irrefl] at h1; cases h1
  have hl : (L.take i).length = i := by rw [List.length_take]; omega
  have hfew := h.few
  have he : putErr (L.take i) false (kepAt L i).1 (kepAt L i).2 = 0 := by
    unfold putErr
    rw [if_neg (by decide), if_pos hf.1, if_pos hf.2, putScan_none hnone _ 0 (by omega), if_neg (by omega)]
  have hp : placeN (L.take i) (kepAt L i).1 (kepAt L i).2 = (L.take i).length := by
    unfold placeN
    rw [List.findIdx_eq_length]
    intro x hx
    rw [hb x hx]
    rfl
  unfold putR
  rw [if_pos he]
  unfold putL
  rw [hp, List.take_of_length_le (Nat.le_refl _), List.drop_eq_nil_of_le (Nat.le_refl _), List.append_nil, take_succ_kep hi]
/-! how long it is -/
theorem dig_len (u : Nat) : ∀ k, u < 10 ^ k → 1 ≤ k → (Lib.decDigits u).length ≤ k := by
  induction u using Nat.strongRecOn with
  | ind u ih =>
    intro k hk h1
    rw [Lib.decDigits]
    split
    · simpa using h1
    · rename_i h
      cases k with
      | zero => omega
      | succ k =>
        rw [List.length_append]
        have hk0 : 1 ≤ k := by
          rcases Nat.eq_zero_or_pos k with h2 | h2
          · subst h2; simp at hk; omega
          · exact h2
        have := ih (u / 10) (by omega) k (by rw [Nat.pow_succ] at hk; omega) hk0
        simp only [List.length_cons, List.length_nil]
        omega
theorem wrN_len {n : Int} (h0 : 0 ≤ n) (h1 : n ≤ 1099511627776) : (wrN n).length ≤ 15 := by
  obtain ⟨u, rfl⟩ : ∃ u : Nat, n = u := ⟨n.toNat, by omega⟩
  unfold wrN
  rw [List.length_append]
  have hi : Lib.itoa (u : Int) = Lib.decDigits u := by unfold Lib.itoa; rw [if_neg (by omega)]; simp
  rw [hi]
  have := dig_len u 14 (by omega) (by decide)
  simp only [List.length_cons, List.length_nil]
  omega
theorem wrK_len {x : Kep} (h : isN x.1 = true ∧ verOk x.2 = true) : (wrK x).length ≤ 2000 := by
  have h1 := isN_size h.1
  have h2 := h.2
  unfold verOk tagB at h2
  simp only [Bool.and_eq_true, decide_eq_true_eq] at h2
  have a1 := wrN_len (n := (x.1.size : Int)) (by omega) (by omega)
  have a2 := wrN_len (n := x.2.n) (by omega) (by omega)
  have a3 := wrN_len (n := x.2.who) (by omega) (by omega)
  have a4 := wrN_len (n := x.2.size) (by omega) (by omega)
  have a5 := wrN_len (n := x.2.at_) (by omega) (by omega)
  have a6 := wrN_len (n := (x.2.text.size : Int)) (by omega) (by omega)
  have b1 : x.1.data.toList.length = x.1.size := by simp
  have b2 : x.2.text.data.toList.length = x.2.text.size := by simp
  unfold wrK wrT
  simp only [List.length_append, b1, b2]
  omega
theorem wrL_len {L : List Kep} (h : ∀ x ∈ L, isN x.1 = true ∧ verOk x.2 = true) : (wrL L).length ≤ L.length * 2000 := by
  induction L with
  | nil => simp [wrL]
  | cons x L ih =>
    have := ih fun y hy => h y (by simp [hy])
    have hx := wrK_len (h x (by simp))
    unfold wrL at this ⊢
    rw [List.flatMap_cons, List.length_append, List.length_cons]
    omega
theorem wrote_len {L : List Kep} (h : GoodL L) (s : Bool) : (wrote L s).length ≤ 130000 := by
  have h1 := wrL_len h.fits
  have h2 := h.few
  have h3 : (wrN (if s then 1 else 0)).length ≤ 15 := by cases s <;> exact wrN_len (by decide) (by decide)
  unfold wrote
  rw [List.length_append]
  omega
end Go.Proofs.YtcoecfpkihakoaaGreatDoor
