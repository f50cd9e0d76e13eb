/- A text with its sum behind it: what is cut off, what is left; bits that are turned in the text alone, within 32 that follow one another: the sum behind it is another one. -/
import Derived.Test.YteppmkpckdmnaaaDoorSealD
namespace Go.Proofs.YteppmkpckdmnaaaDoor
open Go.RowKit
theorem bytesOf_append (a b : ByteArray) : bytesOf (a ++ b) = bytesOf a ++ bytesOf b := by
  unfold bytesOf
  simp [ByteArray.data_append]
theorem bytesOf_inj {a b : ByteArray} (h : bytesOf a = bytesOf b) : a = b := by rw [← strOf_bytesOf a, h, strOf_bytesOf]
theorem bytesOf_extract (s : ByteArray) (a b : Nat) : bytesOf (s.extract a b) = ((bytesOf s).take b).drop a := by
  unfold bytesOf
  rw [ByteArray.data_extract]
  simp [List.map_take, List.map_drop, List.drop_take]
theorem bytesOf_cut (s : ByteArray) : bytesOf (cutT s) = (bytesOf s).take (s.size - 4) := by
  unfold cutT
  rw [bytesOf_extract, List.drop_zero]
theorem bytesOf_end (s : ByteArray) : bytesOf (endT s) = (bytesOf s).drop (s.size - 4) := by
  unfold endT
  rw [bytesOf_extract, ← bytesOf_length, List.take_length]
theorem fourL_bytes (n : Nat) : Gf.Bytes (fourL n) := fun i => by
  match i with
  | 0 => show n / 16777216 % 256 < 256; omega
  | 1 => show n / 65536 % 256 < 256; omega
  | 2 => show n / 256 % 256 < 256; omega
  | 3 => show n % 256 < 256; omega
  | i + 4 => rw [nth_past (by show 4 ≤ i + 4; omega)]; decide
theorem bytesOf_four (n : Nat) : bytesOf (fourT n) = fourL n := bytesOf_strOf (fourL_bytes n)
theorem fourT_size (n : Nat) : (fourT n).size = 4 := by unfold fourT; rw [strOf_size]; rfl
theorem fourT_inj {n m : Nat} (hn : n < 2 ^ 32) (hm : m < 2 ^ 32) (h : fourT n = fourT m) : n = m := by
  have h1 : fourL n = fourL m := by rw [← bytesOf_four, ← bytesOf_four, h]
  unfold fourL at h1
  simp only [List.cons.injEq, and_true] at h1
  omega
/-- A text and its sum. -/
def sealT (s : ByteArray) : ByteArray := s ++ fourT (crcOf s)
theorem sealT_size (s : ByteArray) : (sealT s).size = s.size + 4 := by
  unfold sealT
  rw [← bytesOf_length, bytesOf_append, List.length_append, bytesOf_length, bytesOf_length, fourT_size]
theorem seal_cut (s : ByteArray) : cutT (sealT s) = s := by
  refine bytesOf_inj ?_
  rw [bytesOf_cut, sealT_size]
  unfold sealT
  rw [bytesOf_append, Nat.add_sub_cancel, ← bytesOf_length, List.take_left']
  rfl
theorem seal_end (s : ByteArray) : endT (sealT s) = fourT (crcOf s) := by
  refine bytesOf_inj ?_
  rw [bytesOf_end, sealT_size]
  unfold sealT
  rw [bytesOf_append, Nat.add_sub_cancel, ← bytesOf_length, List.drop_left']
  rfl
/-- Bit p of bytes. -/
def lbit (l : List Nat) (p : Nat) : Nat := Gf.bitOf (Gf.nth l (p / 8)) (p % 8)
theorem lbit_lt (l : List Nat) (p : Nat) : lbit l p < 2 := Nat.mod_lt _ (by decide)
theorem bitOf_pow (j k : Nat) : Gf.bitOf (2 ^ j) k = if j = k then 1 else 0 := by
  have h : Gf.bitOf (2 ^ j) k = ((2 ^ j).testBit k).toNat := by
    unfold Gf.bitOf
    rw [Nat.testBit_eq_decide_div_mod_eq]
    rcases Nat.mod_two_eq_zero_or_one (2 ^ j / 2 ^ k) with e | e <;> simp [e]
  rw [h, Nat.testBit_two_pow]
  by_cases e : j = k
  · rw [if_pos e]; simp [e]
  · rw [if_neg e]; simp [e]
theorem byte_ext {x y : Nat} (hx : x < 256) (hy : y < 256) (h : ∀ j, j < 8 → Gf.bitOf x j = Gf.bitOf y j) : x = y := by
  refine Nat.eq_of_testBit_eq fun j => ?_
  by_cases hj : j < 8
  · have := h j hj
    unfold Gf.bitOf at this
    rw [Nat.testBit_eq_decide_div_mod_eq, Nat.testBit_eq_decide_div_mod_eq, this]
  · have hp : 256 ≤ 2 ^ j := by
      have := Nat.pow_le_pow_right (n := 2) (by decide) (show 8 ≤ j by omega)
      exact this
    rw [Nat.testBit_lt_two_pow (by omega), Nat.testBit_lt_two_pow (by omega)]
/-- One bit turned. -/
def flip1 (l : List Nat) (p : Nat) : List Nat := l.set (p / 8) (Gf.nth l (p / 8) ^^^ 2 ^ (p % 8))
theorem flip1_length (l : List Nat) (p : Nat) : (flip1 l p).length = l.length := by simp [flip1]
theorem nth_set {l : List Nat} {i j v : Nat} (hi : i < l.length) : Gf.nth (l.set i v) j = if j = i then v else Gf.nth l j := by
  show (l.set i v).getD j 0 = if j = i then v else l.getD j 0
  rw [List.getD_eq_getElem?_getD, List.getElem?_set]
  by_cases e : i = j
  · rw [if_pos e, if_pos hi, if_pos e.symm]; rfl
  · rw [if_neg e, if_neg (fun h => e h.symm), List.getD_eq_getElem?_getD]
theorem flip1_bytes {l : List Nat} (h : Gf.Bytes l) {p : Nat} (hp : p / 8 < l.length) : Gf.Bytes (flip1 l p) := fun i => by
  unfold flip1
  rw [nth_set hp]
  have h2 : 2 ^ (p % 8) < 256 := Nat.lt_of_lt_of_le (Nat.pow_lt_pow_right (by decide) (Nat.mod_lt p (by decide : 0 < 8))) (by decide)
  split
  · exact Gf.xlt (h _) h2
  · exact h i
theorem lbit_flip1 {l : List Nat} {p : Nat} (hp : p / 8 < l.length) (q : Nat) : lbit (flip1 l p) q = if q = p then (lbit l q + 1) % 2 else lbit l q := by
  unfold lbit flip1
  rw [nth_set hp]
  by_cases e : q / 8 = p / 8
  · rw [if_pos e, Gf.bit_xor, bitOf_pow, ← e]
    by_cases e2 : q = p
    · rw [if_pos e2, if_pos (by rw [e2])]
    · rw [if_neg e2, if_neg (by omega), Nat.add_zero]
      exact Nat.mod_eq_of_lt (lbit_lt l q)
  · rw [if_neg e, if_neg (fun h => e (by rw [h]))]
/-- The bits of a burst from a on that lie in the first m bits, turned one by one. -/
def flipTo (l : List Nat) (m a burst : Nat) : Nat → List Nat
  | 0 => l
  | i + 1 => if burst / 2 ^ i % 2 = 1 ∧ a + i < m then flip1 (flipTo l m a burst i) (a + i) else flipTo l m a burst i
theorem flipTo_length (l : List Nat) (m a burst : Nat) : ∀ i, (flipTo l m a burst i).length = l.length
  | 0 => rfl
  | i + 1 => by
    show (if _ then _ else _ : List Nat).length = _
    split
    · rw [flip1_length, flipTo_length l m a burst i]
    · exact flipTo_length l m a burst i
theorem flipTo_bytes {l : List Nat} (h : Gf.Bytes l) {m : Nat} (hm : m ≤ 8 * l.length) (a burst : Nat) : ∀ i, Gf.Bytes (flipTo l m a burst i)
  | 0 => h
  | i + 1 => by
    show Gf.Bytes (if _ then _ else _ : List Nat)
    split
    · exact flip1_bytes (flipTo_bytes h hm a burst i) (by rw [flipTo_length]; omega)
    · exact flipTo_bytes h hm a burst i
theorem lbit_flipTo {l : List Nat} {m : Nat} (hm : m ≤ 8 * l.length) (a burst q : Nat) : ∀ i, (¬ (a ≤ q ∧ q < a + i ∧ q < m)) → lbit (flipTo l m a burst i) q = lbit l q
  | 0, _ => rfl
  | i + 1, h => by
    show lbit (if _ then _ else _ : List Nat) q = _
    split
    · rename_i hc
      rw [lbit_flip1 (by rw [flipTo_length]; omega), if_neg (by omega)]
      exact lbit_flipTo hm a burst q i (by omega)
    · exact lbit_flipTo hm a burst q i (by omega)
theorem ext_of_bits {l m : List Nat} (hl : Gf.Bytes l) (hm : Gf.Bytes m) (hlen : l.length = m.length) (h : ∀ q, q < 8 * l.length → lbit l q = lbit m q) : l = m := by
  refine nth_ext hlen fun i hi => byte_ext (hl i) (hm i) fun j hj => ?_
  have := h (8 * i + j) (by omega)
  unfold lbit at this
  rw [show (8 * i + j) / 8 = i by omega, show (8 * i + j) % 8 = j by omega] at this
  exact this
theorem tbit_lbit (s : ByteArray) : tbit s = lbit (bytesOf s) := rfl
/-- A burst in the text alone is seen: the sum that stands behind it is not its own. -/
theorem burst_open (s : ByteArray) (a burst i : Nat) (hi : i ≤ 32) (hne : strOf (flipTo (bytesOf (sealT s)) (8 * s.size) a burst i) ≠ sealT s) :
    fourT (crcOf (cutT (strOf (flipTo (bytesOf (sealT s)) (8 * s.size) a burst i)))) ≠ endT (strOf (flipTo (bytesOf (sealT s)) (8 * s.size) a burst i)) := by
  have hll : (bytesOf (sealT s)).length = s.size + 4 := by rw [bytesOf_length, sealT_size]
  have hm : 8 * s.size ≤ 8 * (bytesOf (sealT s)).length := by omega
  have hB := flipTo_bytes (bytesOf_lt (sealT s)) hm a burst i
  have hL : (flipTo (bytesOf (sealT s)) (8 * s.size) a burst i).length = s.size + 4 := by rw [flipTo_length, hll]
  have hbits := fun q => lbit_flipTo hm a burst q i
  generalize flipTo (bytesOf (sealT s)) (8 * s.size) a burst i = l at *
  have hts : (strOf l).size = s.size + 4 := by rw [strOf_size, hL]
  have hcb : bytesOf (cutT (strOf l)) = l.take s.size := by rw [bytesOf_cut, bytesOf_strOf hB, hts, Nat.add_sub_cancel]
  have hcs : (cutT (strOf l)).size = s.size := by rw [cutT_size, hts, Nat.add_sub_cancel]
  have htk : ∀ q, q < 8 * s.size → lbit (l.take s.size) q = lbit l q := fun q hq => by
    unfold lbit
    congr 1
    show (l.take s.size).getD (q / 8) 0 = l.getD (q / 8) 0
    rw [List.getD_eq_getElem?_getD, List.getD_eq_getElem?_getD, List.getElem?_take_of_lt (by omega)]
  have hsb : ∀ q, q < 8 * s.size → lbit (bytesOf s) q = lbit (bytesOf (sealT s)) q := fun q hq => by
    unfold lbit
    congr 1
    unfold sealT
    rw [bytesOf_append]
    show (bytesOf s).getD (q / 8) 0 = (bytesOf s ++ bytesOf (fourT (crcOf s))).getD (q / 8) 0
    rw [List.getD_eq_getElem?_getD, List.getD_eq_getElem?_getD, List.getElem?_append_left (by rw [bytesOf_length]; omega)]
  -- what stands behind the text is as it was
  have hend : endT (strOf l) = fourT (crcOf s) := by
    rw [← seal_end s]
    refine bytesOf_inj ?_
    rw [bytesOf_end, bytesOf_end, bytesOf_strOf hB, hts, sealT_size, Nat.add_sub_cancel]
    refine nth_ext (by rw [List.length_drop, List.length_drop, hL, hll]) fun p hp => ?_
    rw [List.length_drop, hL] at hp
    have hg : Gf.nth l (s.size + p) = Gf.nth (bytesOf (sealT s)) (s.size + p) := byte_ext (hB _) (bytesOf_lt _ _) fun j hj => by
      have := hbits (8 * (s.size + p) + j) (by omega)
      unfold lbit at this
      rw [show (8 * (s.size + p) + j) / 8 = s.size + p by omega, show (8 * (s.size + p) + j) % 8 = j by omega] at this
      exact this
    show (l.drop s.size).getD p 0 = ((bytesOf (sealT s)).drop s.size).getD p 0
    rw [List.getD_eq_getElem?_getD, List.getD_eq_getElem?_getD, List.getElem?_drop, List.getElem?_drop]
    have hg' : l.getD (s.size + p) 0 = (bytesOf (sealT s)).getD (s.size + p) 0 := hg
    rw [List.getD_eq_getElem?_getD, List.getD_eq_getElem?_getD] at hg'
    exact hg'
  -- some bit of the text is another one
  have hdiff : ∃ q, q < 8 * s.size ∧ lbit (l.take s.size) q ≠ lbit (bytesOf s) q := Classical.byContradiction fun hno => hne (by
    have hall : ∀ q, q < 8 * (s.size + 4) → lbit l q = lbit (bytesOf (sealT s)) q := fun q hq => by
      by_cases h1 : q < 8 * s.size
      · rw [← htk q h1, ← hsb q h1]
        exact Classical.byContradiction fun h2 => hno ⟨q, h1, h2⟩
      · exact hbits q (by omega)
    have := ext_of_bits hB (bytesOf_lt (sealT s)) (by rw [hL, hll]) (fun q hq => hall q (by rw [hL] at hq; exact hq))
    rw [this, strOf_bytesOf])
  rw [hend]
  intro he
  have hc := fourT_inj (crcOf_lt _) (crcOf_lt _) he
  unfold crcOf at hc
  have hc2 : crcS (cutT (strOf l)) = crcS s := by
    have := congrArg (fun x => x ^^^ 4294967295) hc
    simp only [Nat.xor_assoc, Nat.xor_self, Nat.xor_zero] at this
    exact this
  unfold crcS at hc2
  rw [tbit_lbit, tbit_lbit, hcb, hcs] at hc2
  refine Crc.burst_seen (lbit_lt _) (lbit_lt _) 4294967295 (8 * s.size) a (fun q hq hx => ?_) hdiff hc2
  have h1 : ¬ ¬ (a ≤ q ∧ q < a + i ∧ q < 8 * s.size) := fun h2 => hx (by rw [htk q hq, hbits q h2, hsb q hq])
  have h3 := Classical.byContradiction h1
  omega
end Go.Proofs.YteppmkpckdmnaaaDoor
