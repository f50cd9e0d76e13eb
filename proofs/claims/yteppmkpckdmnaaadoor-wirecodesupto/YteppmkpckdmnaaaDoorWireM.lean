/- How a message is written as bytes, and read again. -/
import Derived.Test.YteppmkpckdmnaaaDoorHoldB
import Derived.Test.YteppmkpckdmnaaaDoorOfLM
namespace Go.Proofs.YteppmkpckdmnaaaDoor
open Go.RowKit
/-- A message. -/
structure Msg where
  from_ : ByteArray
  to_ : ByteArray
  kind : ByteArray
  key : ByteArray
  op : Int
  config : Int
  shut : Bool
  L : List Ver
/-! numbers in eight bytes -/
/-- The last i bytes of a number, the highest first. -/
def low (n : Nat) : Nat → List Nat
  | 0 => []
  | i + 1 => (n / 256 ^ i % 256) :: low n i
theorem low_length (n : Nat) : ∀ i, (low n i).length = i
  | 0 => rfl
  | i + 1 => by show (low n i).length + 1 = _; rw [low_length n i]
theorem low_lt (n : Nat) : ∀ i, ∀ x ∈ low n i, x < 256
  | 0, x, h => by cases h
  | i + 1, x, h => by
    rcases List.mem_cons.1 h with h | h
    · rw [h]; omega
    · exact low_lt n i x h
/-- What bytes are as a number, the highest first. -/
def numTo (a : Nat) : List UInt8 → Nat
  | [] => a
  | b :: l => numTo (256 * a + b.toNat) l
theorem numTo_lin (a : Nat) : ∀ l : List UInt8, numTo a l = a * 256 ^ l.length + numTo 0 l
  | [] => by simp [numTo]
  | b :: l => by
    have h1 := numTo_lin (256 * a + b.toNat) l
    have h2 := numTo_lin (256 * 0 + b.toNat) l
    simp only [numTo] at *
    rw [h1, h2, List.length_cons, Nat.pow_succ]
    simp only [Nat.mul_zero, Nat.zero_add, Nat.add_mul]
    rw [Nat.add_assoc]
    congr 1
    rw [Nat.mul_comm 256 a, Nat.mul_assoc, Nat.mul_comm 256]
theorem numTo_lt : ∀ l : List UInt8, numTo 0 l < 256 ^ l.length
  | [] => by simp [numTo]
  | b :: l => by
    have h1 := numTo_lt l
    have h2 := numTo_lin (256 * 0 + b.toNat) l
    have h3 := b.toNat_lt
    simp only [numTo] at *
    rw [h2, List.length_cons, Nat.pow_succ]
    simp only [Nat.mul_zero, Nat.zero_add]
    have h4 : b.toNat * 256 ^ l.length ≤ 255 * 256 ^ l.length := Nat.mul_le_mul_right _ (by omega)
    omega
def eightL (n : Nat) : List UInt8 := (low n 8).map UInt8.ofNat
theorem eightL_length (n : Nat) : (eightL n).length = 8 := by unfold eightL; rw [List.length_map, low_length]
theorem numTo_low (n : Nat) : ∀ i, numTo 0 ((low n i).map UInt8.ofNat) = n % 256 ^ i
  | 0 => by simp [low, numTo, Nat.mod_one]
  | i + 1 => by
    show numTo (256 * 0 + (UInt8.ofNat (n / 256 ^ i % 256)).toNat) ((low n i).map UInt8.ofNat) = _
    rw [numTo_lin, numTo_low n i, List.length_map, low_length, UInt8.toNat_ofNat', Nat.mod_eq_of_lt (show n / 256 ^ i % 256 < 2 ^ 8 by omega)]
    rw [Nat.pow_succ, Nat.mod_mul]
    simp only [Nat.mul_zero, Nat.zero_add]
    rw [Nat.mul_comm, Nat.add_comm]
theorem low_num : ∀ l : List UInt8, (low (numTo 0 l) l.length).map UInt8.ofNat = l := by
  have key : ∀ (l : List UInt8) (m : Nat), (low (m * 256 ^ l.length + numTo 0 l) l.length).map UInt8.ofNat = l := by
    intro l
    induction l with
    | nil => intro m; rfl
    | cons b l ih =>
      intro m
      have h1 := numTo_lt l
      have h2 := numTo_lin (256 * 0 + b.toNat) l
      have h3 := b.toNat_lt
      have e : m * 256 ^ (b :: l).length + numTo 0 (b :: l) = (m * 256 + b.toNat) * 256 ^ l.length + numTo 0 l := by
        simp only [numTo] at *
        rw [h2, List.length_cons, Nat.pow_succ]
        simp only [Nat.mul_zero, Nat.zero_add, Nat.add_mul]
        rw [Nat.add_assoc]
        congr 1
        rw [Nat.mul_assoc, Nat.mul_comm 256]
      rw [e]
      show UInt8.ofNat (((m * 256 + b.toNat) * 256 ^ l.length + numTo 0 l) / 256 ^ l.length % 256) :: (low ((m * 256 + b.toNat) * 256 ^ l.length + numTo 0 l) l.length).map UInt8.ofNat = b :: l
      rw [ih (m * 256 + b.toNat)]
      congr 1
      have hp : 0 < 256 ^ l.length := Nat.pow_pos (by decide)
      rw [Nat.mul_comm, Nat.mul_add_div hp, Nat.div_eq_of_lt h1, Nat.add_zero]
      have : (m * 256 + b.toNat) % 256 = b.toNat := by omega
      rw [this]
      exact UInt8.ofNat_toNat
  intro l
  have := key l 0
  rwa [Nat.zero_mul, Nat.zero_add] at this
/-! how a message is written -/
def txL (s : ByteArray) : List UInt8 := eightL s.size ++ s.data.toList
def verL (v : Ver) : List UInt8 := eightL v.n.toNat ++ (eightL v.who.toNat ++ (eightL v.size.toNat ++ (eightL v.at_.toNat ++ txL v.text)))
def headL (m : Msg) : List UInt8 := txL m.from_ ++ (txL m.to_ ++ (txL m.kind ++ txL m.key))
def encL (m : Msg) : List UInt8 := headL m ++ (eightL m.op.toNat ++ (eightL m.config.toNat ++ (eightL (if m.shut then 1 else 0) ++ (eightL m.L.length ++ m.L.flatMap verL))))
/-! how it is read: what is left, and whether it is bad -/
def rdN (r : List UInt8) (b : Bool) : Nat × List UInt8 × Bool := if b = true ∨ r.length < 8 ∨ 127 < (r.headD 0).toNat then (0, r, true) else (numTo 0 (r.take 8), r.drop 8, false)
def rdT (r : List UInt8) (b : Bool) : ByteArray × List UInt8 × Bool :=
  if (rdN r b).2.2 = true ∨ (rdN r b).2.1.length < (rdN r b).1 then (ofL [], (rdN r b).2.1, true) else (ofL ((rdN r b).2.1.take (rdN r b).1), (rdN r b).2.1.drop (rdN r b).1, false)
def rdV (r : List UInt8) (b : Bool) : Ver × List UInt8 × Bool :=
  let n := rdN r b
  let w := rdN n.2.1 n.2.2
  let s := rdN w.2.1 w.2.2
  let a := rdN s.2.1 s.2.2
  let t := rdT a.2.1 a.2.2
  (⟨n.1, w.1, s.1, a.1, t.1⟩, t.2.1, t.2.2)
def Fits64 (n : Int) : Prop := 0 ≤ n ∧ n ≤ 9223372036854775807
theorem rdN_wr {n : Nat} (h : n ≤ 9223372036854775807) (r : List UInt8) : rdN (eightL n ++ r) false = (n, r, false) := by
  have hl := eightL_length n
  have hh : (eightL n ++ r).headD 0 = UInt8.ofNat (n / 256 ^ 7 % 256) := rfl
  unfold rdN
  rw [if_neg, List.take_left' hl, List.drop_left' hl]
  · unfold eightL
    rw [numTo_low, Nat.mod_eq_of_lt (by omega)]
  · rw [hh, UInt8.toNat_ofNat', List.length_append, hl]
    rintro (h1 | h1 | h1)
    · cases h1
    · omega
    · omega
theorem rdN_inv {r r' : List UInt8} {b : Bool} {n : Nat} (h : rdN r b = (n, r', false)) : r = eightL n ++ r' ∧ n ≤ 9223372036854775807 ∧ b = false := by
  unfold rdN at h
  split at h
  · cases h
  · rename_i hc
    obtain ⟨rfl, h2⟩ := Prod.mk.inj h
    obtain ⟨rfl, _⟩ := Prod.mk.inj h2
    have hlen : ¬ r.length < 8 := fun h => hc (Or.inr (Or.inl h))
    have hhd : ¬ 127 < (r.headD 0).toNat := fun h => hc (Or.inr (Or.inr h))
    have hb : b = false := by cases b with
      | false => rfl
      | true => exact absurd (Or.inl rfl) hc
    have ht : (r.take 8).length = 8 := by rw [List.length_take]; omega
    refine ⟨?_, ?_, hb⟩
    · have := low_num (r.take 8)
      rw [ht] at this
      unfold eightL
      rw [this, List.take_append_drop]
    · match r, hlen, hhd with
      | x :: l, hlen, hhd =>
        have h7 : (l.take 7).length = 7 := by rw [List.length_take]; simp at hlen; omega
        have e1 : (x :: l).take 8 = x :: l.take 7 := rfl
        rw [e1]
        have h1 := numTo_lin (256 * 0 + x.toNat) (l.take 7)
        have hlt := numTo_lt (l.take 7)
        have h3 : x.toNat ≤ 127 := by simpa using hhd
        rw [h7] at h1 hlt
        simp only [numTo]
        rw [h1]
        simp only [Nat.mul_zero, Nat.zero_add]
        omega
theorem rdT_wr {s : ByteArray} (h : s.size ≤ 9223372036854775807) (r : List UInt8) : rdT (txL s ++ r) false = (s, r, false) := by
  have hl : s.data.toList.length = s.size := by simp
  unfold rdT txL
  rw [List.append_assoc, rdN_wr h]
  simp only []
  rw [if_neg, List.take_left' hl, List.drop_left' hl, ofL_self]
  rw [List.length_append, hl]
  rintro (h1 | h1)
  · cases h1
  · omega
theorem rdT_inv {r r' : List UInt8} {b : Bool} {s : ByteArray} (h : rdT r b = (s, r', false)) : r = txL s ++ r' ∧ s.size ≤ 9223372036854775807 ∧ b = false := by
  unfold rdT at h
  split at h
  · cases h
  · rename_i hc
    obtain ⟨rfl, h2⟩ := Prod.mk.inj h
    obtain ⟨rfl, _⟩ := Prod.mk.inj h2
    have hb : (rdN r b).2.2 = false := by
      cases hq : (rdN r b).2.2 with
      | false => rfl
      | true => exact absurd (Or.inl hq) hc
    have hle : ¬ (rdN r b).2.1.length < (rdN r b).1 := fun h => hc (Or.inr h)
    have he : rdN r b = ((rdN r b).1, (rdN r b).2.1, false) := by
      conv => rhs; rw [← hb]
    obtain ⟨h1, h2, h3⟩ := rdN_inv he
    have hs : (ofL ((rdN r b).2.1.take (rdN r b).1)).size = (rdN r b).1 := by rw [ofL_size, List.length_take]; omega
    refine ⟨?_, by rw [hs]; exact h2, h3⟩
    unfold txL
    rw [hs, ofL_data, List.append_assoc, List.take_append_drop]
    exact h1
def VerFits (v : Ver) : Prop := Fits64 v.n ∧ Fits64 v.who ∧ Fits64 v.size ∧ Fits64 v.at_ ∧ v.text.size ≤ 9223372036854775807
theorem rdV_wr {v : Ver} (h : VerFits v) (r : List UInt8) : rdV (verL v ++ r) false = (v, r, false) := by
  obtain ⟨⟨a1, a2⟩, ⟨b1, b2⟩, ⟨c1, c2⟩, ⟨d1, d2⟩, ht⟩ := h
  unfold rdV verL
  simp only [List.append_assoc]
  rw [rdN_wr (by omega)]
  simp only []
  rw [rdN_wr (by omega)]
  simp only []
  rw [rdN_wr (by omega)]
  simp only []
  rw [rdN_wr (by omega)]
  simp only []
  rw [rdT_wr ht]
  simp only [Int.toNat_of_nonneg a1, Int.toNat_of_nonneg b1, Int.toNat_of_nonneg c1, Int.toNat_of_nonneg d1]
theorem rdV_inv {r r' : List UInt8} {b : Bool} {v : Ver} (h : rdV r b = (v, r', false)) : r = verL v ++ r' ∧ VerFits v ∧ b = false := by
  unfold rdV at h
  simp only [] at h
  obtain ⟨rfl, h2⟩ := Prod.mk.inj h
  obtain ⟨h3, h4⟩ := Prod.mk.inj h2
  have e : ∀ {α : Type} (x : α × List UInt8 × Bool), x.2.2 = false → x = (x.1, x.2.1, false) := fun x hx => by rw [← hx]
  obtain ⟨t1, t2, t3⟩ := rdT_inv (e _ h4)
  obtain ⟨a1, a2, a3⟩ := rdN_inv (e _ t3)
  obtain ⟨s1, s2, s3⟩ := rdN_inv (e _ a3)
  obtain ⟨w1, w2, w3⟩ := rdN_inv (e _ s3)
  obtain ⟨n1, n2, n3⟩ := rdN_inv (e _ w3)
  refine ⟨?_, ⟨⟨by simp, by simp; omega⟩, ⟨by simp, by simp; omega⟩, ⟨by simp, by simp; omega⟩, ⟨by simp, by simp; omega⟩, t2⟩, n3⟩
  unfold verL
  simp only [Int.toNat_natCast, List.append_assoc]
  rw [← h3, ← t1, ← a1, ← s1, ← w1]
  exact n1
/-! many versions -/
def rdM : Nat → List UInt8 → Bool → List Ver × List UInt8 × Bool
  | 0, r, b => ([], r, b)
  | k + 1, r, b => if b = true then ([], r, b) else
    let v := rdV r b
    let x := rdM k v.2.1 v.2.2
    (v.1 :: x.1, x.2.1, x.2.2)
theorem rdM_wr : ∀ (L : List Ver), (∀ v ∈ L, VerFits v) → ∀ r, rdM L.length (L.flatMap verL ++ r) false = (L, r, false)
  | [], _, r => rfl
  | v :: L, h, r => by
    rw [List.length_cons, rdM, if_neg (by decide), List.flatMap_cons, List.append_assoc, rdV_wr (h v (by simp))]
    simp only []
    rw [rdM_wr L (fun x hx => h x (by simp [hx])) r]
theorem rdM_inv : ∀ (k : Nat) {r r' : List UInt8} {b : Bool} {L : List Ver}, rdM k r b = (L, r', false) → r = L.flatMap verL ++ r' ∧ (∀ v ∈ L, VerFits v) ∧ L.length = k ∧ b = false
  | 0, r, r', b, L, h => by
    obtain ⟨rfl, h2⟩ := Prod.mk.inj h
    obtain ⟨rfl, h3⟩ := Prod.mk.inj h2
    exact ⟨rfl, (fun _ h => by cases h), rfl, h3⟩
  | k + 1, r, r', b, L, h => by
    rw [rdM] at h
    split at h
    · rename_i hb
      obtain ⟨_, h2⟩ := Prod.mk.inj h
      obtain ⟨_, h3⟩ := Prod.mk.inj h2
      rw [hb] at h3
      cases h3
    · simp only [] at h
      obtain ⟨rfl, h2⟩ := Prod.mk.inj h
      obtain ⟨h3, h4⟩ := Prod.mk.inj h2
      have e : ∀ {α : Type} (x : α × List UInt8 × Bool), x.2.2 = false → x = (x.1, x.2.1, false) := fun x hx => by rw [← hx]
      obtain ⟨i1, i2, i3, i4⟩ := rdM_inv k (e _ h4)
      obtain ⟨j1, j2, j3⟩ := rdV_inv (e _ i4)
      refine ⟨?_, fun v hv => ?_, by rw [List.length_cons, i3], j3⟩
      · rw [List.flatMap_cons, List.append_assoc, ← h3, ← i1]
        exact j1
      · rcases List.mem_cons.1 hv with h5 | h5
        · rw [h5]; exact j2
        · exact i2 v h5
end Go.Proofs.YteppmkpckdmnaaaDoor
