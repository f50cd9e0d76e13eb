/- Texts laid together. -/
import Derived.Test.YthjookigppfmjaaDoorIa2
import Derived.Lib.AtoiAll
import Derived.Lib.ItoaNum
import Derived.Lib.IndexMore
import Derived.Shelf.SlSortCmp.QuietGrown
import Derived.Laws.RangeAny
import Derived.Deep.RegionHeld3
namespace Go.Proofs.YthjookigppfmjaaDoor
open Go.RowKit
/-! how what is held is written -/
def wrN (n : Int) : List UInt8 := Lib.itoa n ++ [58]
def wrT (s : ByteArray) : List UInt8 := wrN (s.size : Int) ++ s.data.toList
def wrK (x : Kep) : List UInt8 := wrT x.1 ++ (wrN x.2.n ++ (wrN x.2.who ++ (wrN x.2.size ++ (wrN x.2.at_ ++ wrT x.2.text))))
def wrL (L : List Kep) : List UInt8 := L.flatMap wrK
def wrote (L : List Kep) (s : Bool) : List UInt8 := wrN (if s then 1 else 0) ++ wrL L
/-! how it is read: what is left, and whether it has failed -/
def numF (r : ByteArray) (f : Bool) : Int × ByteArray × Bool :=
  match Lib.atoiAll (Lib.cut r.data.toList [58]).1 with
  | .ok n => if (Lib.cut r.data.toList [58]).2.2 then (n, ofL (Lib.cut r.data.toList [58]).2.1, f) else (0, ofL [], true)
  | _ => (0, ofL [], true)
def textF (r : ByteArray) (f : Bool) : ByteArray × ByteArray × Bool :=
  if (numF r f).1 < 0 ∨ ((numF r f).2.1.size : Int) < (numF r f).1 then (ofL [], ofL [], true)
  else ((numF r f).2.1.extract 0 (numF r f).1.toNat, (numF r f).2.1.extract (numF r f).1.toNat (numF r f).2.1.size, (numF r f).2.2)
def verF (r : ByteArray) (f : Bool) : (ByteArray × Ver) × ByteArray × Bool :=
  let k := textF r f
  let a := numF k.2.1 k.2.2
  let b := numF a.2.1 a.2.2
  let c := numF b.2.1 b.2.2
  let d := numF c.2.1 c.2.2
  let t := textF d.2.1 d.2.2
  ((k.1, ⟨a.1, b.1, c.1, d.1, t.1⟩), t.2.1, t.2.2)
theorem dig_ok : ∀ (u : Nat) (l : List UInt8), u < 9223372036854775808 → Lib.parseUint10 0 (Lib.decDigits u ++ l) = Lib.parseUint10 u l := by
  intro u
  induction u using Nat.strongRecOn with
  | ind u ih =>
    intro l hu
    rw [Lib.decDigits]
    split
    · rename_i h
      rw [List.singleton_append]
      have e : (UInt8.ofNat (48 + u)).toNat = 48 + u := by rw [UInt8.toNat_ofNat']; exact Nat.mod_eq_of_lt (by omega)
      rw [Lib.parseUint10, e, if_pos (by omega), if_neg (by omega), if_neg (by omega)]
      congr 1
      omega
    · rename_i h
      rw [List.append_assoc, ih (u / 10) (by omega) _ (by omega), List.singleton_append]
      have e : (UInt8.ofNat (48 + u % 10)).toNat = 48 + u % 10 := by rw [UInt8.toNat_ofNat']; exact Nat.mod_eq_of_lt (by omega)
      rw [Lib.parseUint10, e, if_pos (by omega), if_neg (by omega), if_neg (by omega)]
      congr 1
      omega
theorem dig_mem : ∀ (u : Nat), ∀ c ∈ Lib.decDigits u, 48 ≤ c.toNat ∧ c.toNat ≤ 57 := by
  intro u
  induction u using Nat.strongRecOn with
  | ind u ih =>
    intro c hc
    rw [Lib.decDigits] at hc
    split at hc
    · rename_i h
      rw [List.mem_singleton.1 hc, UInt8.toNat_ofNat', Nat.mod_eq_of_lt (by omega)]
      omega
    · rename_i h
      rcases List.mem_append.1 hc with h1 | h1
      · exact ih (u / 10) (by omega) c h1
      · rw [List.mem_singleton.1 h1, UInt8.toNat_ofNat', Nat.mod_eq_of_lt (by omega)]
        omega
theorem dig_ne (u : Nat) : Lib.decDigits u ≠ [] := by
  rw [Lib.decDigits]
  split
  · simp
  · simp
theorem atoi_dig {u : Nat} (hu : u < 9223372036854775808) : Lib.atoiAll (Lib.decDigits u) = .ok (u : Int) := by
  have hm := dig_mem u
  have hp : Lib.parseUint10 0 (Lib.decDigits u) = .ok u := by
    have := dig_ok u [] hu
    rw [List.append_nil] at this
    rw [this]
    rfl
  have hne := dig_ne u
  cases hd : Lib.decDigits u with
  | nil => exact absurd hd hne
  | cons c r =>
    rw [hd] at hm hp
    have hc := hm c (by simp)
    have h1 : ¬ (c.toNat = 43 ∨ c.toNat = 45) := by omega
    have h2 : ¬ c.toNat = 45 := by omega
    unfold Lib.atoiAll
    simp only [if_neg h1]
    unfold Lib.parseMag
    rw [if_neg (by simp), hp]
    simp only [h2]
    simp
    omega
theorem cut_colon {a b : List UInt8} (ha : ∀ c ∈ a, c ≠ 58) : Lib.cut (a ++ 58 :: b) [58] = (a, b, true) := by
  have hi : Lib.index (a ++ 58 :: b) [58] = (a.length : Int) := by
    refine Lib.index_first (by simp) ?_ ?_
    · unfold Lib.occAt
      rw [List.drop_left]
      rfl
    · intro j hj
      unfold Lib.occAt
      rw [List.drop_append_of_le_length (by omega), List.drop_eq_getElem_cons hj]
      show (58 == a[j] && _) = false
      have := ha a[j] (List.getElem_mem hj)
      simp [Ne.symm this]
  unfold Lib.cut
  rw [hi, if_pos (by omega)]
  simp
theorem numF_wr {n : Int} (h0 : 0 ≤ n) (h1 : n ≤ 9223372036854775807) (b : List UInt8) (f : Bool) : numF (ofL (wrN n ++ b)) f = (n, ofL b, f) := by
  obtain ⟨u, rfl⟩ : ∃ u : Nat, n = u := ⟨n.toNat, by omega⟩
  have hi : Lib.itoa (u : Int) = Lib.decDigits u := by unfold Lib.itoa; rw [if_neg (by omega)]; simp
  unfold numF
  rw [ofL_data]
  have e : wrN (u : Int) ++ b = Lib.decDigits u ++ 58 :: b := by unfold wrN; rw [hi]; simp
  rw [e, cut_colon (fun c hc e => by have := dig_mem u c hc; rw [e] at this; exact absurd this.2 (by decide))]
  simp only []
  rw [atoi_dig (by omega)]
  rfl
theorem textF_wr {s : ByteArray} (hs : s.size ≤ 9223372036854775807) (b : List UInt8) (f : Bool) : textF (ofL (wrT s ++ b)) f = (s, ofL b, f) := by
  unfold textF wrT
  rw [List.append_assoc, numF_wr (by omega) (by omega)]
  have hsz : (ofL (s.data.toList ++ b)).size = s.size + b.length := by
    rw [ofL_size, List.length_append]
    rfl
  have hl : s.data.toList.length = s.size := by simp
  rw [if_neg (by simp only []; rw [hsz]; omega)]
  simp only [Int.toNat_natCast]
  have e1 := ofL_left s.data.toList b
  have e2 := ofL_right s.data.toList b
  rw [hl] at e1 e2
  rw [e1, e2, ofL_self]
theorem verF_wr {x : Kep} (hk : isN x.1 = true) (hv : verOk x.2 = true) (b : List UInt8) (f : Bool) : verF (ofL (wrK x ++ b)) f = (x, ofL b, f) := by
  have hk1 := isN_size hk
  unfold verOk tagB at hv
  simp only [Bool.and_eq_true, decide_eq_true_eq] at hv
  unfold verF wrK
  simp only [List.append_assoc]
  rw [textF_wr (by omega)]
  simp only []
  rw [numF_wr (by omega) (by omega)]
  simp only []
  rw [numF_wr (by omega) (by omega)]
  simp only []
  rw [numF_wr (by omega) (by omega)]
  simp only []
  rw [numF_wr (by omega) (by omega)]
  simp only []
  rw [textF_wr (by omega)]
/-! what is read is less than there was -/
theorem cut_shorter {l : List UInt8} (h : (Lib.cut l [58]).2.2 = true) : (Lib.cut l [58]).2.1.length < l.length := by
  unfold Lib.cut at h ⊢
  split at h
  · rename_i h0
    rw [if_pos h0]
    have := Lib.index_room l [58] h0
    simp only [List.length_drop, List.length_cons, List.length_nil] at this ⊢
    omega
  · cases h
theorem numF_shorter {r : ByteArray} {f : Bool} (h : (numF r f).2.2 = false) : (numF r f).2.1.size < r.size ∧ f = false := by
  unfold numF at h ⊢
  split
  · rename_i n hn
    rw [hn] at h
    simp only [] at h
    split
    · rename_i hc
      rw [if_pos hc] at h
      have := cut_shorter hc
      rw [ofL_size]
      exact ⟨this, h⟩
    · rename_i hc
      rw [if_neg hc] at h
      cases h
  · rename_i hn
    split at h
    · rename_i n hn'
      exact absurd hn' (hn n)
    · cases h
theorem textF_shorter {r : ByteArray} {f : Bool} (h : (textF r f).2.2 = false) : (textF r f).2.1.size < r.size ∧ f = false := by
  unfold textF at h ⊢
  split at h
  · cases h
  · rename_i hc
    rw [if_neg hc]
    have := numF_shorter h
    refine ⟨Nat.lt_of_le_of_lt ?_ this.1, this.2⟩
    simp only [ByteArray.size_extract]
    omega
theorem verF_shorter {r : ByteArray} (h : (verF r false).2.2 = false) : (verF r false).2.1.size < r.size := by
  unfold verF at h ⊢
  simp only [] at h ⊢
  obtain ⟨h1, e1⟩ := textF_shorter h
  obtain ⟨h2, e2⟩ := numF_shorter e1
  obtain ⟨h3, e3⟩ := numF_shorter e2
  obtain ⟨h4, e4⟩ := numF_shorter e3
  obtain ⟨h5, e5⟩ := numF_shorter e4
  obtain ⟨h6, _⟩ := textF_shorter e5
  omega
/-! what is kept in order is put again, one behind the other -/
structure GoodL (L : List Kep) : Prop where
  sorted : SortedK L
  few : L.length ≤ 60
  fits : ∀ x ∈ L, isN x.1 = true ∧ verOk x.2 = true
theorem GoodL.nil : GoodL [] := ⟨List.Pairwise.nil, by simp, fun _ h => by cases h⟩
theorem GoodL.put {L : List Kep} (h : GoodL L) {s : Bool} {key : ByteArray} {v : Ver} (h0 : putErr L s key v = 0) : GoodL (putL L key v) ∧ (∀ x ∈ getL L key, tagOf x ≠ tagOf v) ∧ s = false ∧ isN key = true ∧ verOk v = true ∧ L.length < 60 := by
  unfold putErr at h0
  split at h0
  · cases h0
  · rename_i hs
    split at h0
    · rename_i hn
      split at h0
      · rename_i hv
        have hnone : ∀ x ∈ getL L key, tagOf x ≠ tagOf v := fun x hx ht => by
          rw [putScan_there h.sorted hx ht] at h0
          split at h0 <;> cases h0
        rw [putScan_none hnone L.length 0 (by omega)] at h0
        have hlt : L.length < 60 := by
          refine Classical.byContradiction fun hc => ?_
          rw [if_pos (by omega)] at h0
          cases h0
        refine ⟨⟨putL_sorted h.sorted hnone, by rw [putL_length]; omega, fun x hx => ?_⟩, hnone, by simpa using hs, hn, hv, hlt⟩
        rcases mem_putL.1 hx with h1 | h1
        · exact h.fits x h1
        · rw [h1]; exact ⟨hn, hv⟩
      · cases h0
    · cases h0
theorem GoodL.trim {L : List Kep} (h : GoodL L) (key : ByteArray) (n : Nat) : GoodL (trimGo key n L) := ⟨trimL_sorted h.sorted key n, Nat.le_trans (trimGo_sub key L n).length_le h.few, fun x hx => h.fits x ((trimGo_sub key L n).subset hx)⟩
theorem put_next {L : List Kep} (h : GoodL L) {i : Nat} (hi : i < L.length) : putR (L.take i) false (kepAt L i).1 (kepAt L i).2 = (0, L.take (i + 1)) := by
  have hf := h.fits (kepAt L i) (List.mem_of_getElem? (kepAt_get hi))
  have hs : SortedK (L.take (i + 1)) := List.Pairwise.sublist (List.take_sublist _ _) h.sorted
  rw [take_succ_kep hi] at hs
  obtain ⟨hs1, _, hs2⟩ := List.pairwise_append.1 hs
  have hb : ∀ y ∈ L.take i, beforeB y (kepAt L i).1 (kepAt L i).2 = true := fun y hy => hs2 y hy _ (by simp)
  have hnone : ∀ x ∈ getL (L.take i) (kepAt L i).1, tagOf x ≠ tagOf (kepAt L i).2 := fun x hx ht => by
    rcases before_iff.1 (hb _ (mem_getL.1 hx)) with h1 | ⟨_, h1⟩
    · exact kl_irrefl _ h1
    · rw [ht, lessB_irrefl] at h1; cases h1
  have hl : (L.take i).length = i := by rw [List.length_take]; omega
  have hfew := h.few
  have he : putErr (L.take i) false (kepAt L i).1 (kepAt L i).2 = 0 := by
    unfold putErr
    rw [if_neg (by decide), if_pos hf.1, if_pos hf.2, putScan_none hnone _ 0 (by omega), if_neg (by omega)]
  have hp : placeN (L.take i) (kepAt L i).1 (kepAt L i).2 = (L.take i).length := by
    unfold placeN
    rw [List.findIdx_eq_length]
    intro x hx
    rw [hb x hx]
    rfl
  unfold putR
  rw [if_pos he]
  unfold putL
  rw [hp, List.take_of_length_le (Nat.le_refl _), List.drop_eq_nil_of_le (Nat.le_refl _), List.append_nil, take_succ_kep hi]
/-! how long it is -/
theorem dig_len (u : Nat) : ∀ k, u < 10 ^ k → 1 ≤ k → (Lib.decDigits u).length ≤ k := by
  induction u using Nat.strongRecOn with
  | ind u ih =>
    intro k hk h1
    rw [Lib.decDigits]
    split
    · simpa using h1
    · rename_i h
      cases k with
      | zero => omega
      | succ k =>
        rw [List.length_append]
        have hk0 : 1 ≤ k := by
          rcases Nat.eq_zero_or_pos k with h2 | h2
          · subst h2; simp at hk; omega
          · exact h2
        have := ih (u / 10) (by omega) k (by rw [Nat.pow_succ] at hk; omega) hk0
        simp only [List.length_cons, List.length_nil]
        omega
theorem wrN_len {n : Int} (h0 : 0 ≤ n) (h1 : n ≤ 1099511627776) : (wrN n).length ≤ 15 := by
  obtain ⟨u, rfl⟩ : ∃ u : Nat, n = u := ⟨n.toNat, by omega⟩
  unfold wrN
  rw [List.length_append]
  have hi : Lib.itoa (u : Int) = Lib.decDigits u := by unfold Lib.itoa; rw [if_neg (by omega)]; simp
  rw [hi]
  have := dig_len u 14 (by omega) (by decide)
  simp only [List.length_cons, List.length_nil]
  omega
theorem wrK_len {x : Kep} (h : isN x.1 = true ∧ verOk x.2 = true) : (wrK x).length ≤ 2000 := by
  have h1 := isN_size h.1
  have h2 := h.2
  unfold verOk tagB at h2
  simp only [Bool.and_eq_true, decide_eq_true_eq] at h2
  have a1 := wrN_len (n := (x.1.size : Int)) (by omega) (by omega)
  have a2 := wrN_len (n := x.2.n) (by omega) (by omega)
  have a3 := wrN_len (n := x.2.who) (by omega) (by omega)
  have a4 := wrN_len (n := x.2.size) (by omega) (by omega)
  have a5 := wrN_len (n := x.2.at_) (by omega) (by omega)
  have a6 := wrN_len (n := (x.2.text.size : Int)) (by omega) (by omega)
  have b1 : x.1.data.toList.length = x.1.size := by simp
  have b2 : x.2.text.data.toList.length = x.2.text.size := by simp
  unfold wrK wrT
  simp only [List.length_append, b1, b2]
  omega
theorem wrL_len {L : List Kep} (h : ∀ x ∈ L, isN x.1 = true ∧ verOk x.2 = true) : (wrL L).length ≤ L.length * 2000 := by
  induction L with
  | nil => simp [wrL]
  | cons x L ih =>
    have := ih fun y hy => h y (by simp [hy])
    have hx := wrK_len (h x (by simp))
    unfold wrL at this ⊢
    rw [List.flatMap_cons, List.length_append, List.length_cons]
    omega
theorem wrote_len {L : List Kep} (h : GoodL L) (s : Bool) : (wrote L s).length ≤ 130000 := by
  have h1 := wrL_len h.fits
  have h2 := h.few
  have h3 : (wrN (if s then 1 else 0)).length ≤ 15 := by cases s <;> exact wrN_len (by decide) (by decide)
  unfold wrote
  rw [List.length_append]
  omega
section
open Go.Sort
theorem below_grow (w : World) (n : Nat) (os : Array Obj) : RowKit.Below w.heap.size w (grow (w.drewN n) os) := ⟨rfl, rfl, rfl, by show w.heap.size ≤ (w.heap ++ os).size; rw [Array.size_append]; omega, fun _ hj => heap_grow_old (w.drewN n) os hj⟩
end
set_option maxRecDepth 10000 in
set_option maxHeartbeats 1000000 in
theorem sign_any (r : Nat) (W : World) : Calls Tryd.prog 24 #[.int .i32 (r : Int)] W fun e w' => e = .returned (.bool (!letterB r)) ∧ w' = W := by
  have key : ∀ b, letterB r = b → Hid ((!letterB r) = (!b)) := fun b h => by show _ = _; rw [h]
  rcases (show (97 ≤ r ∧ r ≤ 122) ∨ (48 ≤ r ∧ r ≤ 57) ∨ r = 45 ∨ 122 < r ∨ (57 < r ∧ r < 97) ∨ (r < 48 ∧ r ≠ 45) by omega) with hc | hc | hc | hc | hc | hc
  · have HL := key true (by simp [letterB, hc])
    obtain ⟨hc1, hc2⟩ := hc
    have d1 : decide ((r : Int) < 97) = false := decide_eq_false (by omega)
    have d2 : decide (122 < (r : Int)) = false := decide_eq_false (by omega)
    rw [HL.out]
    clear key
    go_enter Tryd.func24, Tryd.ntmps24
    go_wp2
    go_ret
    exact ⟨rfl, rfl⟩
  · have HL := key true (by simp [letterB, hc])
    obtain ⟨hc1, hc2⟩ := hc
    have d1 : decide ((r : Int) < 97) = true := decide_eq_true (by omega)
    have d3 : decide ((r : Int) < 48) = false := decide_eq_false (by omega)
    have d4 : decide (57 < (r : Int)) = false := decide_eq_false (by omega)
    rw [HL.out]
    clear key
    go_enter Tryd.func24, Tryd.ntmps24
    go_wp2
    go_ret
    exact ⟨rfl, rfl⟩
  · have HL := key true (by simp [letterB, hc])
    subst hc
    rw [HL.out]
    clear key
    go_enter Tryd.func24, Tryd.ntmps24
    go_wp2
    go_ret
    exact ⟨rfl, rfl⟩
  · have HL := key false (by unfold letterB; rw [decide_eq_false (by omega), decide_eq_false (by omega), decide_eq_false (by omega)]; rfl)
    have d1 : decide ((r : Int) < 97) = false := decide_eq_false (by omega)
    have d2 : decide (122 < (r : Int)) = true := decide_eq_true (by omega)
    have d3 : decide ((r : Int) < 48) = false := decide_eq_false (by omega)
    have d4 : decide (57 < (r : Int)) = true := decide_eq_true (by omega)
    have d5 : ((r : Int) != 45) = true := by rw [bne_iff_ne]; omega
    have d6 : ((r : Int) == 45) = false := by rw [beq_eq_false_iff_ne]; omega
    rw [HL.out]
    clear key
    go_enter Tryd.func24, Tryd.ntmps24
    go_wp2
    go_ret
    exact ⟨rfl, rfl⟩
  · have HL := key false (by unfold letterB; rw [decide_eq_false (by omega), decide_eq_false (by omega), decide_eq_false (by omega)]; rfl)
    obtain ⟨hc1, hc2⟩ := hc
    have d1 : decide ((r : Int) < 97) = true := decide_eq_true (by omega)
    have d3 : decide ((r : Int) < 48) = false := decide_eq_false (by omega)
    have d4 : decide (57 < (r : Int)) = true := decide_eq_true (by omega)
    have d5 : ((r : Int) != 45) = true := by rw [bne_iff_ne]; omega
    have d6 : ((r : Int) == 45) = false := by rw [beq_eq_false_iff_ne]; omega
    rw [HL.out]
    clear key
    go_enter Tryd.func24, Tryd.ntmps24
    go_wp2
    go_ret
    exact ⟨rfl, rfl⟩
  · have HL := key false (by unfold letterB; rw [decide_eq_false (by omega), decide_eq_false (by omega), decide_eq_false (by omega)]; rfl)
    obtain ⟨hc1, hc2⟩ := hc
    have d1 : decide ((r : Int) < 97) = true := decide_eq_true (by omega)
    have d3 : decide ((r : Int) < 48) = true := decide_eq_true (by omega)
    have d5 : ((r : Int) != 45) = true := by rw [bne_iff_ne]; omega
    have d6 : ((r : Int) == 45) = false := by rw [beq_eq_false_iff_ne]; omega
    rw [HL.out]
    clear key
    go_enter Tryd.func24, Tryd.ntmps24
    go_wp2
    go_ret
    exact ⟨rfl, rfl⟩
/-- From place i on: a sign that no name has is found just where there is such a byte. -/
theorem idxFrom (s : ByteArray) : ∀ (f i : Nat), s.size ≤ i + f → (decide (0 ≤ Lib.idxFuncFrom (fun r => !letterB r) true s f i) = true ↔ ∃ j, i ≤ j ∧ j < s.size ∧ letterB (Gf.nth (bytesOf s) j) = false)
  | 0, i, h => by
    constructor
    · intro h1
      have h2 : decide ((0 : Int) ≤ -1) = true := h1
      cases h2
    · rintro ⟨j, h1, h2, _⟩
      omega
  | f + 1, i, h => by
    show decide (0 ≤ (if i < s.size then (if (!letterB (Utf8.decode s i).1) = true then (i : Int) else Lib.idxFuncFrom (fun r => !letterB r) true s f (i + (Utf8.decode s i).2)) else -1)) = true ↔ _
    by_cases hi : i < s.size
    · rw [if_pos hi]
      by_cases ha : (s[i]'hi).toNat < 128
      · rw [decode_ascii s i hi ha, ← bytesOf_nth s i hi]
        have ih := idxFrom s f (i + 1) (by omega)
        cases hl : letterB (Gf.nth (bytesOf s) i) with
        | false =>
          rw [if_pos (by rfl)]
          exact ⟨fun _ => ⟨i, Nat.le_refl _, hi, hl⟩, fun _ => decide_eq_true (by omega)⟩
        | true =>
          rw [if_neg (by simp), ih]
          constructor
          · rintro ⟨j, h1, h2, h3⟩
            exact ⟨j, by omega, h2, h3⟩
          · rintro ⟨j, h1, h2, h3⟩
            refine ⟨j, ?_, h2, h3⟩
            by_cases e : j = i
            · rw [e, hl] at h3; cases h3
            · omega
      · have h1 := (decode_high s i hi (by omega)).1
        have hl : letterB (Utf8.decode s i).1 = false := by
          unfold letterB
          rw [decide_eq_false (by omega), decide_eq_false (by omega), decide_eq_false (by omega)]
          rfl
        have hl2 : letterB (Gf.nth (bytesOf s) i) = false := by
          rw [bytesOf_nth s i hi]
          unfold letterB
          rw [decide_eq_false (by omega), decide_eq_false (by omega), decide_eq_false (by omega)]
          rfl
        rw [hl, if_pos (by rfl)]
        exact ⟨fun _ => ⟨i, Nat.le_refl _, hi, hl2⟩, fun _ => decide_eq_true (by omega)⟩
    · rw [if_neg hi]
      constructor
      · intro h1
        cases h1
      · rintro ⟨j, h1, h2, _⟩
        omega
theorem idxOf (s : ByteArray) : decide (0 ≤ Lib.idxFunc (fun r => !letterB r) true s) = !((bytesOf s).all letterB) := by
  have h := idxFrom s s.size 0 (by omega)
  cases ha : (bytesOf s).all letterB with
  | true =>
    rw [show (!true) = false from rfl, Bool.eq_false_iff]
    intro h1
    obtain ⟨j, _, hj, h3⟩ := h.1 h1
    have hj' : j < (bytesOf s).length := by rw [bytesOf_length]; exact hj
    rw [List.all_eq_true] at ha
    have := ha (Gf.nth (bytesOf s) j) (by rw [Gf.nth_getElem _ j hj']; exact List.getElem_mem hj')
    rw [h3] at this
    cases this
  | false =>
    obtain ⟨x, hx, hne⟩ := List.all_eq_false.1 ha
    obtain ⟨j, hj, rfl⟩ := List.getElem_of_mem hx
    refine h.2 ⟨j, Nat.zero_le _, by rw [bytesOf_length] at hj; exact hj, ?_⟩
    rw [Gf.nth_getElem _ j hj]
    exact Bool.eq_false_iff.2 hne
set_option maxRecDepth 10000 in
set_option maxHeartbeats 1000000 in
theorem pname_any (s : ByteArray) (w : World) : Calls Tryd.prog 13 #[.string s] w fun e w' => e = .returned (.bool (isN s)) ∧ Below w.heap.size w w' := by
  by_cases h1 : s.size < 1
  · have HE : Hid (isN s = false) := isN_len (by omega)
    have d1 : decide (1 ≤ (s.size : Int)) = false := decide_eq_false (by omega)
    rw [HE.out]
    go_enter Tryd.func13, Tryd.ntmps13
    go_wp2
    go_ret
    exact ⟨rfl, Below.refl _ _⟩
  have d1 : decide (1 ≤ (s.size : Int)) = true := decide_eq_true (by omega)
  by_cases h2 : 16 < s.size
  · have HE : Hid (isN s = false) := isN_len (by omega)
    have d2 : decide ((s.size : Int) ≤ 16) = false := decide_eq_false (by omega)
    rw [HE.out]
    go_enter Tryd.func13, Tryd.ntmps13
    go_wp2
    go_ret
    exact ⟨rfl, Below.refl _ _⟩
  have d2 : decide ((s.size : Int) ≤ 16) = true := decide_eq_true (by omega)
  have HC := Tryd.strings_ContainsFunc 24 #[] (enters_of Tryd.func24 (by kernel_rfl) rfl) (fun r => !letterB r) s w (fun W r _ => by
    unfold FnGives
    exact (sign_any r W).mono fun _ _ ⟨he, hw⟩ => ⟨he, 0, hw⟩)
  rw [idxOf] at HC
  have HE : Hid (isN s = (bytesOf s).all letterB) := by show _ = _; unfold isN; rw [decide_eq_true ⟨by omega, by omega⟩, Bool.true_and]
  rw [HE.out]
  generalize (bytesOf s).all letterB = r at *
  clear HE
  go_enter Tryd.func13, Tryd.ntmps13
  go_wp2_with fail
  refine HC.mono ?_
  rintro e w1 ⟨rfl, hb1⟩
  clear HC
  cases r with
  | true =>
    go_wp2
    go_ret
    exact ⟨rfl, hb1⟩
  | false =>
    go_wp2
    go_ret
    exact ⟨rfl, hb1⟩
/-- Package hold answers as it is asked to (what a first look needs); Hd: in the world w the hold at block h, in the blocks of S, holds L, and is sealed or not; X: what is asked of the world where something is put. -/
structure HoldOk0 (ad : Nat → Addr) (X : World → Prop) (Hd : World → Nat → (Nat → Prop) → List Kep → Bool → Prop) : Prop where
  lt : ∀ {w h S L s}, Hd w h S L s → ∀ k, S k → k < w.heap.size
  keep : ∀ {w w' h S L s}, Hd w h S L s → w.heap.size ≤ w'.heap.size → (∀ k, S k → w'.heap[k]? = w.heap[k]?) → Hd w' h S L s
  zero : ∀ w : World, Hd (w.alloc (.cells #[.map none, .bool false] 29)) w.heap.size (fun k => k = w.heap.size) [] false
  less : ∀ (a b : Int × Int) (w : World), Calls Tryd.prog 5 #[.agg #[.int .i64 a.1, .int .i64 a.2], .agg #[.int .i64 b.1, .int .i64 b.2]] w fun e w' => e = .returned (.bool (lessB a b)) ∧ ∃ q os, w' = Sort.grow (w.drewN q) os
  count : ∀ {w h S L s}, Hd w h S L s → Calls Tryd.prog 10 #[.pointer (some ⟨h, 0, none⟩)] w fun e w' => e = .returned (.int .i64 (L.length : Int)) ∧ Below w.heap.size w w'
  get : ∀ {w h S L s} (key : ByteArray), key.size ≤ maxLen → Hd w h S L s → Calls Tryd.prog 8 #[.pointer (some ⟨h, 0, none⟩), .string key] w fun e w' => (∃ p c, e = .returned (.slice p (getL L key).length c) ∧ Rec verE w' p (getL L key)) ∧ Below w.heap.size w w'
  last : ∀ {w h S L s} (key : ByteArray), key.size ≤ maxLen → Hd w h S L s → Calls Tryd.prog 9 #[.pointer (some ⟨h, 0, none⟩), .string key] w fun e w' => e = .returned (.tuple #[.agg #[.int .i64 (lastT (getL L key)).1, .int .i64 (lastT (getL L key)).2], .bool (decide (0 < (getL L key).length))]) ∧ Below w.heap.size w w'
  put : ∀ {w h S L s} (key : ByteArray) (v : Ver), key.size ≤ maxLen → v.text.size ≤ maxLen → Hd w h S L s → X w → Calls Tryd.prog 7 #[.pointer (some ⟨h, 0, none⟩), .string key, verA v] w fun e w' => (∃ ev, e = .returned ev ∧ BareIs ad ev (putR L s key v).1) ∧ ∃ S', Hd w' h S' (putR L s key v).2 s ∧ Upd S S' w w'
section
open Go.Sort
set_option maxRecDepth 10000 in
theorem rless_grow (a b : Int × Int) (w : World) :
    Calls Tryd.prog 6 #[.agg #[.int .i64 a.1, .int .i64 a.2], .agg #[.int .i64 b.1, .int .i64 b.2]] w fun e w' => e = .returned (.bool (lessB a b)) ∧ ∃ q os, w' = grow (w.drewN q) os := by
  obtain ⟨a1, a2⟩ := a
  obtain ⟨b1, b2⟩ := b
  by_cases h1 : a1 < b1
  · have HE : Hid (lessB (a1, a2) (b1, b2) = true) := by show _ = _; unfold lessB; simp [h1]
    rw [HE.out]
    go_enter Tryd.func6, Tryd.ntmps6
    go_wp2
    go_ret
    exact ⟨rfl, 0, _, by rw [alloc_eq_grow, alloc_eq_grow, grow_grow]; rfl⟩
  have d1 : decide (a1 < b1) = false := decide_eq_false h1
  by_cases h2 : a1 = b1
  · subst h2
    have HE : Hid (lessB (a1, a2) (a1, b2) = decide (a2 < b2)) := by show _ = _; unfold lessB; simp
    rw [HE.out]
    go_enter Tryd.func6, Tryd.ntmps6
    go_wp2
    go_ret
    exact ⟨rfl, 0, _, by rw [alloc_eq_grow, alloc_eq_grow, grow_grow]; rfl⟩
  · have HE : Hid (lessB (a1, a2) (b1, b2) = false) := by show _ = _; unfold lessB; simp [h1, h2]
    rw [HE.out]
    have d2 : (a1 == b1) = false := by
      rw [beq_eq_false_iff_ne]
      exact h2
    go_enter Tryd.func6, Tryd.ntmps6
    go_wp2
    go_ret
    exact ⟨rfl, 0, _, by rw [alloc_eq_grow, alloc_eq_grow, grow_grow]; rfl⟩
end
def keyK : ByteArray := ⟨#[107]⟩
def verK : Ver := ⟨1, 0, 1, 0, ⟨#[120]⟩⟩
theorem putK : putR [] false keyK verK = (0, [(keyK, verK)]) := by decide
theorem getK : getL [(keyK, verK)] keyK = [verK] := by decide
set_option maxRecDepth 10000 in
set_option maxHeartbeats 1600000 in
theorem holds_any {ad : Nat → Addr} {X : World → Prop} {Hd : World → Nat → (Nat → Prop) → List Kep → Bool → Prop} (hO : HoldOk0 ad X Hd) (w : World) (hS : ∀ W, Below w.heap.size w W → X W) :
    Calls Tryd.prog 4 #[] w fun e w' => e = .returned (.bool true) ∧ Below w.heap.size w w' := by
  obtain ⟨w2, hw2⟩ : ∃ w2, w2 = (w.alloc (.cells #[.map none, .bool false] 29)).alloc (.cells #[.int .i64 1, .int .i64 0, .int .i64 1, .int .i64 0, .string ⟨#[120]⟩] 33) := ⟨_, rfl⟩
  have HB2 : Hid (Below w.heap.size w w2) := by rw [hw2]; exact ((Below.refl _ _).alloc (Nat.le_refl _) _).alloc (by simp) _
  have hs2 : w2.heap.size = w.heap.size + 2 := by rw [hw2]; simp
  have HS2 : Hid (w2.heap.size = w.heap.size + 2) := hs2
  have HD2 : Hid (Hd w2 w.heap.size (fun k => k = w.heap.size) [] false) := by
    refine hO.keep (hO.zero w) (by rw [hw2]; simp) (fun k hk => ?_)
    subst hk
    rw [hw2]
    exact ((Below.refl (w.alloc (.cells #[.map none, .bool false] 29)).heap.size _).alloc (Nat.le_refl _) _).block w.heap.size (by simp)
  have HC2 : Hid (w2.cell? ⟨w.heap.size + 1, 0, none⟩ = some (.int .i64 1) ∧ w2.cell? ⟨w.heap.size + 1, 1, none⟩ = some (.int .i64 0) ∧ w2.cell? ⟨w.heap.size + 1, 2, none⟩ = some (.int .i64 1) ∧ w2.cell? ⟨w.heap.size + 1, 3, none⟩ = some (.int .i64 0) ∧ w2.cell? ⟨w.heap.size + 1, 4, none⟩ = some (.string ⟨#[120]⟩)) := by
    rw [hw2]; exact ⟨by simp, by simp, by simp, by simp, by simp⟩
  have HP := hO.put keyK verK (by decide) (by decide) HD2.out (hS w2 HB2.out)
  rw [putK] at HP
  have HP2 : Calls Tryd.prog 7 #[.pointer (some ⟨w.heap.size, 0, none⟩), .string ⟨#[107]⟩, .agg #[.int .i64 1, .int .i64 0, .int .i64 1, .int .i64 0, .string ⟨#[120]⟩]] w2 _ := HP
  have HW2 : Hid (w2 = (w.alloc (.cells #[.map none, .bool false] 29)).alloc (.cells #[.int .i64 1, .int .i64 0, .int .i64 1, .int .i64 0, .string ⟨#[120]⟩] 33)) := hw2
  clear hw2 hs2 hS HP
  have HO : Hid (HoldOk0 ad X Hd) := hO
  clear hO
  go_enter Tryd.func4, Tryd.ntmps4
  go_wp2_with fail
  rw [← HW2.out]
  refine HP2.mono ?_
  rintro e w3 ⟨⟨ev, rfl, hev⟩, S', hD3, hU⟩
  obtain rfl : ev = .nilIface := by
    rcases hev with ⟨h, _⟩ | ⟨i, _, _, h⟩
    · exact h
    · exact absurd h (by simp; omega)
  have HB3 : Hid (Below w.heap.size w w3) := HB2.out.trans ⟨hU.os, hU.tape, hU.output, hU.size, fun k hk => hU.block k (by have := HS2.out; omega) (by show ¬ (k = w.heap.size); omega)⟩
  have HC3 : Hid (w3.cell? ⟨w.heap.size + 1, 0, none⟩ = some (.int .i64 1) ∧ w3.cell? ⟨w.heap.size + 1, 1, none⟩ = some (.int .i64 0) ∧ w3.cell? ⟨w.heap.size + 1, 2, none⟩ = some (.int .i64 1) ∧ w3.cell? ⟨w.heap.size + 1, 3, none⟩ = some (.int .i64 0) ∧ w3.cell? ⟨w.heap.size + 1, 4, none⟩ = some (.string ⟨#[120]⟩)) := by
    have hb := hU.block (w.heap.size + 1) (by have := HS2.out; omega) (by show ¬ (_ = _); omega)
    have hc : ∀ o, w3.cell? ⟨w.heap.size + 1, o, none⟩ = w2.cell? ⟨w.heap.size + 1, o, none⟩ := fun o => by unfold World.cell?; rw [hb]
    obtain ⟨h0, h1, h2, h3, h4⟩ := HC2.out
    exact ⟨(hc 0).trans h0, (hc 1).trans h1, (hc 2).trans h2, (hc 3).trans h3, (hc 4).trans h4⟩
  have HD3 : Hid (Hd w3 w.heap.size S' [(keyK, verK)] false) := hD3
  have HX : Hid (w.heap.size + 1 < w3.heap.size) := by have := HS2.out; have := hU.size; show _ < _; omega
  clear hev hD3 hU HP2 HC2 HD2 HW2
  have HG := HO.out.get keyK (by decide) HD3.out
  rw [getK] at HG
  have HG2 : Calls Tryd.prog 8 #[.pointer (some ⟨w.heap.size, 0, none⟩), .string ⟨#[107]⟩] w3 _ := HG
  clear HG
  go_wp2_with fail
  refine HG2.mono ?_
  rintro e w4 ⟨⟨p, c, rfl, hr⟩, hb4⟩
  clear HG2
  have HB4 : Hid (Below w3.heap.size w3 w4) := hb4
  have HR4 : Hid (Rec verE w4 p [verK]) := hr
  have HD4 : Hid (Hd w4 w.heap.size S' [(keyK, verK)] false) := HO.out.keep HD3.out hb4.size (fun k hk => hb4.block k (HO.out.lt HD3.out k hk))
  have HL := HO.out.last keyK (by decide) HD4.out
  rw [getK] at HL
  have HL2 : Calls Tryd.prog 9 #[.pointer (some ⟨w.heap.size, 0, none⟩), .string ⟨#[107]⟩] w4 fun e w' => e = .returned (.tuple #[.agg #[.int .i64 1, .int .i64 0], .bool true]) ∧ Below w4.heap.size w4 w' := HL
  clear HL hr hb4
  go_wp2_with fail
  refine HL2.mono ?_
  rintro e w5 ⟨rfl, hb5⟩
  clear HL2
  have HB5 : Hid (Below w3.heap.size w3 w5) := HB4.out.trans (hb5.mono HB4.out.size)
  obtain ⟨b, o, hpp, hblt, hrc⟩ : ∃ b o, p = some ⟨b, o, none⟩ ∧ b < w4.heap.size ∧ ∀ j u, (verC verK)[j]? = some u → w4.cell? ⟨b, o + j, none⟩ = some u := by
    rcases HR4.out with h | ⟨b, o, hp, hlt, hc⟩
    · cases h
    · refine ⟨b, o, hp, hlt, fun j u hj => ?_⟩
      have := hc 0 verK rfl j u hj
      simpa using this
  subst hpp
  obtain ⟨w6, hw6⟩ : ∃ w6, w6 = w5.alloc (.cells #[.int .i64 1, .int .i64 0] 23) := ⟨_, rfl⟩
  have HB6 : Hid (Below w5.heap.size w5 w6) := by rw [hw6]; exact (Below.refl _ _).alloc (Nat.le_refl _) _
  have HS6 : Hid (w5.heap.size < w6.heap.size) := by rw [hw6]; show _ < _; simp
  have HD6 : Hid (Hd w6 w.heap.size S' [(keyK, verK)] false) := by
    have hb := (hb5.trans (HB6.out.mono hb5.size))
    exact HO.out.keep HD4.out hb.size (fun k hk => hb.block k (HO.out.lt HD4.out k hk))
  have HC6 : Hid (w6.cell? ⟨w5.heap.size, 0, none⟩ = some (.int .i64 1) ∧ w6.cell? ⟨w5.heap.size, 1, none⟩ = some (.int .i64 0)) := by rw [hw6]; exact ⟨by simp, by simp⟩
  have HALL : Hid (∀ W, Below w6.heap.size w6 W → (W.cell? ⟨w.heap.size + 1, 0, none⟩ = some (.int .i64 1) ∧ W.cell? ⟨w.heap.size + 1, 1, none⟩ = some (.int .i64 0) ∧ W.cell? ⟨w.heap.size + 1, 2, none⟩ = some (.int .i64 1) ∧ W.cell? ⟨w.heap.size + 1, 3, none⟩ = some (.int .i64 0) ∧ W.cell? ⟨w.heap.size + 1, 4, none⟩ = some (.string ⟨#[120]⟩) ∧ W.cell? ⟨b, o, none⟩ = some (.int .i64 1) ∧ W.cell? ⟨b, o + 1, none⟩ = some (.int .i64 0) ∧ W.cell? ⟨b, o + 2, none⟩ = some (.int .i64 1) ∧ W.cell? ⟨b, o + 3, none⟩ = some (.int .i64 0) ∧ W.cell? ⟨b, o + 4, none⟩ = some (.string ⟨#[120]⟩) ∧ W.cell? ⟨w5.heap.size, 0, none⟩ = some (.int .i64 1) ∧ W.cell? ⟨w5.heap.size, 1, none⟩ = some (.int .i64 0) ∧ Below w6.heap.size w6 W)) := fun W hW => by
    have hx := HX.out
    have h36 : Below w3.heap.size w3 w6 := HB5.out.trans (HB6.out.mono HB5.out.size)
    have h46 : Below w4.heap.size w4 w6 := hb5.trans (HB6.out.mono hb5.size)
    have t3 : ∀ o', W.cell? ⟨w.heap.size + 1, o', none⟩ = w3.cell? ⟨w.heap.size + 1, o', none⟩ := fun o' => ((h36.trans (hW.mono h36.size))).cell (p := ⟨w.heap.size + 1, o', none⟩) hx
    have t4 : ∀ o', W.cell? ⟨b, o', none⟩ = w4.cell? ⟨b, o', none⟩ := fun o' => ((h46.trans (hW.mono h46.size))).cell (p := ⟨b, o', none⟩) hblt
    have t6 : ∀ o', W.cell? ⟨w5.heap.size, o', none⟩ = w6.cell? ⟨w5.heap.size, o', none⟩ := fun o' => hW.cell (p := ⟨w5.heap.size, o', none⟩) HS6.out
    obtain ⟨h0, h1, h2, h3, h4⟩ := HC3.out
    exact ⟨(t3 0).trans h0, (t3 1).trans h1, (t3 2).trans h2, (t3 3).trans h3, (t3 4).trans h4, (t4 _).trans (hrc 0 _ rfl), (t4 _).trans (hrc 1 _ rfl), (t4 _).trans (hrc 2 _ rfl), (t4 _).trans (hrc 3 _ rfl), (t4 _).trans (hrc 4 _ rfl), (t6 0).trans HC6.out.1, (t6 1).trans HC6.out.2, hW⟩
  have HW6 : Hid (w6 = w5.alloc (.cells #[.int .i64 1, .int .i64 0] 23)) := hw6
  have HCN : Hid (∀ W, Below w6.heap.size w6 W → Calls Tryd.prog 10 #[.pointer (some ⟨w.heap.size, 0, none⟩)] W fun e w' => e = .returned (.int .i64 1) ∧ Below w6.heap.size w6 w') := fun W hW => (HO.out.count (HO.out.keep HD6.out hW.size (fun k hk => hW.block k (HO.out.lt HD6.out k hk)))).mono fun e w' ⟨h1, h2⟩ => ⟨h1, hW.trans (h2.mono hW.size)⟩
  have HLS : Hid (∀ W, Below w6.heap.size w6 W → Calls Tryd.prog 5 #[.agg #[.int .i64 0, .int .i64 0], .agg #[.int .i64 1, .int .i64 0]] W fun e w' => e = .returned (.bool true) ∧ Below w6.heap.size w6 w') := fun W hW => (HO.out.less (0, 0) (1, 0) W).mono fun e w' ⟨h1, q, os, h2⟩ => ⟨h1, by rw [h2]; exact hW.trans ((below_grow W q os).mono hW.size)⟩
  have HB : Hid (Below w.heap.size w w6) := HB3.out.trans ((HB5.out.trans (HB6.out.mono HB5.out.size)).mono HB3.out.size)
  have hS0 := HALL.out w6.drew (Below.refl _ _).drew
  clear hw6 HB5 HB6 HS6 HC6 HD6 HD4 HD3 HC3 HB4 hrc hblt HR4 hb5 HX HB2 HS2 HB3
  go_wp2_with fail
  rw [← HW6.out]
  go_region_held3 (fun W => (W.cell? ⟨w.heap.size + 1, 0, none⟩ = some (.int .i64 1) ∧ W.cell? ⟨w.heap.size + 1, 1, none⟩ = some (.int .i64 0) ∧ W.cell? ⟨w.heap.size + 1, 2, none⟩ = some (.int .i64 1) ∧ W.cell? ⟨w.heap.size + 1, 3, none⟩ = some (.int .i64 0) ∧ W.cell? ⟨w.heap.size + 1, 4, none⟩ = some (.string ⟨#[120]⟩) ∧ W.cell? ⟨b, o, none⟩ = some (.int .i64 1) ∧ W.cell? ⟨b, o + 1, none⟩ = some (.int .i64 0) ∧ W.cell? ⟨b, o + 2, none⟩ = some (.int .i64 1) ∧ W.cell? ⟨b, o + 3, none⟩ = some (.int .i64 0) ∧ W.cell? ⟨b, o + 4, none⟩ = some (.string ⟨#[120]⟩) ∧ W.cell? ⟨w5.heap.size, 0, none⟩ = some (.int .i64 1) ∧ W.cell? ⟨w5.heap.size, 1, none⟩ = some (.int .i64 0) ∧ Below w6.heap.size w6 W)) (first | assumption | exact hS0) (first | (go_at_call 10; refine (HCN.out _ (by have := hS0.2.2.2.2.2.2.2.2.2.2.2.2; first | assumption | exact (And.right (by assumption)))).mono ?_; rintro e w7 ⟨rfl, hb7⟩; have hS7 := HALL.out _ hb7) | (go_at_call 5; refine (HLS.out _ hb7).mono ?_; rintro e w8 ⟨rfl, hb8⟩; have hS8 := HALL.out _ hb8))
  go_wp2
  go_ret
  exact ⟨rfl, HB.out.trans (hb8.mono HB.out.size)⟩
section
open Go.Sort
/-- What follows in a region, kept shut. -/
structure KeptQ (p : Prop) : Prop where
  out : p
theorem qstep {P : Program} {ops : Array Oper} {C : World → Prop} {Q : Act → Prop} {a : Act} {o : Oper} {rest : List Oper}
    (h : ∀ K : Act → Prop, (∀ a, KeptQ (wpQuiet P ops C Q rest a) → K a) → if Region.wanted o (yielded ops a.tmps) then o.quiet P a C K else K (a.put o.dst undef)) : KeptQ (wpQuiet P ops C Q (o :: rest) a) :=
  ⟨wpQuiet_step (fun K hK => h K (fun a ha => hK a ha.out))⟩
end
section
open Go.Sort
set_option maxRecDepth 10000 in
set_option maxHeartbeats 1600000 in
theorem holdLess_lt {ad : Nat → Addr} {X : World → Prop} {Hd : World → Nat → (Nat → Prop) → List Kep → Bool → Prop} (hO : HoldOk0 ad X Hd) (a1 a2 b1 b2 : Int) (w : World)
    (hH : ∀ W, RowKit.Below w.heap.size w W → Calls Tryd.prog 4 #[] W fun e w' => e = .returned (.bool true) ∧ RowKit.Below W.heap.size W w')
    (x : Bool) (hx : lessB (a1, a2) (b1, b2) = x) (y : Bool) (hy : lessB (b1, b2) (a1, a2) = y) (hne : (¬ a1 = b1 ∧ y = !x) ∨ (a1 = b1 ∧ ¬ a2 = b2 ∧ y = !x) ∨ (a1 = b1 ∧ a2 = b2 ∧ x = false)) :
    Calls Tryd.prog 3 #[.agg #[.int .i64 a1, .int .i64 a2], .agg #[.int .i64 b1, .int .i64 b2]] w fun e w' => e = .returned (.bool true) ∧ RowKit.Below w.heap.size w w' := by
  obtain ⟨w1, hw1⟩ : ∃ w1, w1 = (w.alloc (.cells #[.int .i64 a1, .int .i64 a2] 23)).alloc (.cells #[.int .i64 b1, .int .i64 b2] 23) := ⟨_, rfl⟩
  have hb1 : RowKit.Below w.heap.size w w1 := by rw [hw1]; exact ((RowKit.Below.refl _ _).alloc (Nat.le_refl _) _).alloc (by simp) _
  have hs1 : w1.heap.size = w.heap.size + 2 := by rw [hw1]; simp
  have c0 : w1.cell? ⟨w.heap.size, 0, none⟩ = some (.int .i64 a1) := by rw [hw1]; simp
  have c1 : w1.cell? ⟨w.heap.size, 1, none⟩ = some (.int .i64 a2) := by rw [hw1]; simp
  have c2 : w1.cell? ⟨w.heap.size + 1, 0, none⟩ = some (.int .i64 b1) := by rw [hw1]; simp
  have c3 : w1.cell? ⟨w.heap.size + 1, 1, none⟩ = some (.int .i64 b2) := by rw [hw1]; simp
  have HH := hH w1 hb1
  have HW1 : Hid (w1 = (w.alloc (.cells #[.int .i64 a1, .int .i64 a2] 23)).alloc (.cells #[.int .i64 b1, .int .i64 b2] 23)) := hw1
  have HB1 : Hid (RowKit.Below w.heap.size w w1) := hb1
  have HS1 : Hid (w1.heap.size = w.heap.size + 2) := hs1
  have HC : Hid (w1.cell? ⟨w.heap.size, 0, none⟩ = some (.int .i64 a1) ∧ w1.cell? ⟨w.heap.size, 1, none⟩ = some (.int .i64 a2) ∧ w1.cell? ⟨w.heap.size + 1, 0, none⟩ = some (.int .i64 b1) ∧ w1.cell? ⟨w.heap.size + 1, 1, none⟩ = some (.int .i64 b2)) := ⟨c0, c1, c2, c3⟩
  have HLab : Hid (∀ W, Calls Tryd.prog 5 #[.agg #[.int .i64 a1, .int .i64 a2], .agg #[.int .i64 b1, .int .i64 b2]] W fun e w' => e = .returned (.bool x) ∧ ∃ q os, w' = Sort.grow (W.drewN q) os) := fun W => by have h := hO.less (a1, a2) (b1, b2) W; rw [hx] at h; exact h
  have HLba : Hid (∀ W, Calls Tryd.prog 5 #[.agg #[.int .i64 b1, .int .i64 b2], .agg #[.int .i64 a1, .int .i64 a2]] W fun e w' => e = .returned (.bool y) ∧ ∃ q os, w' = Sort.grow (W.drewN q) os) := fun W => by have h := hO.less (b1, b2) (a1, a2) W; rw [hy] at h; exact h
  have HLaa : Hid (∀ W, Calls Tryd.prog 5 #[.agg #[.int .i64 a1, .int .i64 a2], .agg #[.int .i64 a1, .int .i64 a2]] W fun e w' => e = .returned (.bool false) ∧ ∃ q os, w' = Sort.grow (W.drewN q) os) := fun W => by
    have h := hO.less (a1, a2) (a1, a2) W
    have e : lessB (a1, a2) (a1, a2) = false := by simp [lessB]
    rw [e] at h; exact h
  have HRab : Hid (∀ W, Calls Tryd.prog 6 #[.agg #[.int .i64 a1, .int .i64 a2], .agg #[.int .i64 b1, .int .i64 b2]] W fun e w' => e = .returned (.bool x) ∧ ∃ q os, w' = Sort.grow (W.drewN q) os) := fun W => by have h := rless_grow (a1, a2) (b1, b2) W; rw [hx] at h; exact h
  clear hw1 hb1 hs1 hH c0 c1 c2 c3 hO hx hy
  go_enter Tryd.func3, Tryd.ntmps3
  go_wp2_with (first | rw [← HW1.out])
  refine HH.mono ?_
  rintro e w2 ⟨rfl, hb2⟩
  obtain ⟨c0, c1, c2, c3⟩ := HC.out
  have HW2 : Hid (RowKit.Below w.heap.size w w2) := HB1.out.trans (hb2.mono (by have := HS1.out; omega))
  have f0 : ∀ n os, (grow (w2.drewN n) os).cell? ⟨w.heap.size, 0, none⟩ = some (.int .i64 a1) := cell_grown (by have := HS1.out; have := hb2.size; show w.heap.size < _; omega) (by rw [hb2.cell (p := ⟨w.heap.size, 0, none⟩) (by have := HS1.out; show w.heap.size < _; omega)]; exact c0)
  have f1 : ∀ n os, (grow (w2.drewN n) os).cell? ⟨w.heap.size, 1, none⟩ = some (.int .i64 a2) := cell_grown (by have := HS1.out; have := hb2.size; show w.heap.size < _; omega) (by rw [hb2.cell (p := ⟨w.heap.size, 1, none⟩) (by have := HS1.out; show w.heap.size < _; omega)]; exact c1)
  have f2 : ∀ n os, (grow (w2.drewN n) os).cell? ⟨w.heap.size + 1, 0, none⟩ = some (.int .i64 b1) := cell_grown (by have := HS1.out; have := hb2.size; show w.heap.size + 1 < _; omega) (by rw [hb2.cell (p := ⟨w.heap.size + 1, 0, none⟩) (by have := HS1.out; show w.heap.size + 1 < _; omega)]; exact c2)
  have f3 : ∀ n os, (grow (w2.drewN n) os).cell? ⟨w.heap.size + 1, 1, none⟩ = some (.int .i64 b2) := cell_grown (by have := HS1.out; have := hb2.size; show w.heap.size + 1 < _; omega) (by rw [hb2.cell (p := ⟨w.heap.size + 1, 1, none⟩) (by have := HS1.out; show w.heap.size + 1 < _; omega)]; exact c3)
  clear c0 c1 c2 c3 hb2 HH HW1 HB1 HS1 HC
  rcases hne with ⟨h1, rfl⟩ | ⟨rfl, h2, rfl⟩ | ⟨rfl, rfl, rfl⟩
  all_goals
    go_wp2
    refine wp_region_quiet_grown (by kernel_rfl) (by kernel_rfl) (KeptQ.out ?_)
    repeat (refine qstep (fun K hK => ?_); go_simp; first | (refine hK _ ?_; clear hK K) | (apply Exists.intro; refine ⟨fun _ => ?_, hK _ ?_⟩; (first | with_reducible exact Calls.grown_of (HLaa.out _) | with_reducible exact Calls.grown_of (HLab.out _) | with_reducible exact Calls.grown_of (HRab.out _) | with_reducible exact Calls.grown_of (HLba.out _)); clear hK K))
    refine ⟨wpQuiet_nil ?_⟩
    intro _ hw'
    obtain ⟨⟨nq, osq⟩, hw''⟩ := hw'
    subst hw''
    go_wp2
    go_ret
    exact ⟨by simp, HW2.out.trans ((below_grow w2 nq osq).mono HW2.out.size)⟩
/-- HoldLess holds. -/
theorem holdLess_any {ad : Nat → Addr} {X : World → Prop} {Hd : World → Nat → (Nat → Prop) → List Kep → Bool → Prop} (hO : HoldOk0 ad X Hd) (a1 a2 b1 b2 : Int) (w : World)
    (hH : ∀ W, RowKit.Below w.heap.size w W → Calls Tryd.prog 4 #[] W fun e w' => e = .returned (.bool true) ∧ RowKit.Below W.heap.size W w') :
    Calls Tryd.prog 3 #[.agg #[.int .i64 a1, .int .i64 a2], .agg #[.int .i64 b1, .int .i64 b2]] w fun e w' => e = .returned (.bool true) ∧ RowKit.Below w.heap.size w w' := by
  refine holdLess_lt hO a1 a2 b1 b2 w hH _ rfl _ rfl ?_
  by_cases h1 : a1 = b1
  · subst h1
    by_cases h2 : a2 = b2
    · exact Or.inr (Or.inr ⟨rfl, h2, by subst h2; simp [lessB]⟩)
    · refine Or.inr (Or.inl ⟨rfl, h2, ?_⟩)
      rw [Bool.eq_not]
      intro e
      simp [lessB] at e
      omega
  · refine Or.inl ⟨h1, ?_⟩
    rw [Bool.eq_not]
    intro e
    simp [lessB, h1, Ne.symm h1] at e
    omega
end
end Go.Proofs.YthjookigppfmjaaDoor
