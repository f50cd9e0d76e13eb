/- The remainder bit by bit: it is linear, a step with no bit loses nothing, and so a burst of at most 32 bits is seen. -/
import Derived.Test.YtoapbjifkjehhaaGreatDoorGfAll
import Derived.Test.YtoapbjifkjehhaaGreatDoorG1
namespace Go.Proofs.YtoapbjifkjehhaaGreatDoor.Crc
def poly : Nat := 3988292384
def back (c : Nat) : Nat := if c % 2 = 1 then poly else 0
/-- One step: the lowest bit goes out; with the text's bit it tells whether the polynomial is added. -/
def step (c b : Nat) : Nat := c / 2 ^^^ back (c ^^^ b)
theorem xor_mod2 (a b : Nat) : (a ^^^ b) % 2 = (a % 2 + b % 2) % 2 := by
  have h := Nat.xor_mod_two_pow (a := a) (b := b) (n := 1)
  have e : ∀ x, x < 2 → ∀ y, y < 2 → x ^^^ y = (x + y) % 2 := by decide
  rw [show 2 ^ 1 = 2 from rfl] at h
  rw [h, e _ (Nat.mod_lt _ (by decide)) _ (Nat.mod_lt _ (by decide))]
theorem xor_div2 (a b : Nat) : (a ^^^ b) / 2 = a / 2 ^^^ b / 2 := Nat.xor_div_two
theorem back_xor (a b : Nat) : back (a ^^^ b) = back a ^^^ back b := by
  unfold back
  have h := xor_mod2 a b
  rcases Nat.mod_two_eq_zero_or_one a with ha | ha <;> rcases Nat.mod_two_eq_zero_or_one b with hb | hb <;> rw [ha, hb] at h <;> simp [h, ha, hb]
theorem step_xor (c d a b : Nat) : step (c ^^^ d) (a ^^^ b) = step c a ^^^ step d b := by
  unfold step
  rw [xor_div2, show (c ^^^ d) ^^^ (a ^^^ b) = (c ^^^ a) ^^^ (d ^^^ b) by ac_rfl, back_xor]
  ac_rfl
theorem poly_lt : poly < 2 ^ 32 := by decide
theorem back_lt (c : Nat) : back c < 2 ^ 32 := by
  unfold back
  split
  · exact poly_lt
  · decide
theorem step_lt {c : Nat} (h : c < 2 ^ 32) (b : Nat) : step c b < 2 ^ 32 := Nat.xor_lt_two_pow (by omega) (back_lt _)
theorem step_bit (c b : Nat) (hb : b < 2) : step c b = step (c ^^^ b) 0 := by
  unfold step
  rw [xor_div2, Nat.xor_zero, show b / 2 = 0 by omega, Nat.xor_zero]
/-- With no bit nothing is lost. -/
theorem step_ne {c : Nat} (h : c < 2 ^ 32) (h0 : c ≠ 0) : step c 0 ≠ 0 := by
  unfold step back
  rw [Nat.xor_zero]
  by_cases e : c % 2 = 1
  · rw [if_pos e]
    intro hx
    have h1 : c / 2 = poly := Gf.eq_of_xor hx
    unfold poly at h1
    omega
  · rw [if_neg e, Nat.xor_zero]
    omega
/-- The remainder over the first p bits. -/
def crcTo (f : Nat → Nat) (c : Nat) : Nat → Nat
  | 0 => c
  | p + 1 => step (crcTo f c p) (f p)
theorem crcTo_lt {f : Nat → Nat} {c : Nat} (h : c < 2 ^ 32) : ∀ p, crcTo f c p < 2 ^ 32
  | 0 => h
  | p + 1 => step_lt (crcTo_lt h p) _
theorem crcTo_xor (f g : Nat → Nat) (c d : Nat) : ∀ p, crcTo (fun i => f i ^^^ g i) (c ^^^ d) p = crcTo f c p ^^^ crcTo g d p
  | 0 => rfl
  | p + 1 => by
    show step (crcTo (fun i => f i ^^^ g i) (c ^^^ d) p) (f p ^^^ g p) = _
    rw [crcTo_xor f g c d p, step_xor]
    rfl
theorem crcTo_add (f : Nat → Nat) (c p : Nat) : ∀ q, crcTo f c (p + q) = crcTo (fun i => f (p + i)) (crcTo f c p) q
  | 0 => rfl
  | q + 1 => by
    show step (crcTo f c (p + q)) (f (p + q)) = step (crcTo (fun i => f (p + i)) (crcTo f c p) q) (f (p + q))
    rw [crcTo_add f c p q]
theorem crcTo_congr {f g : Nat → Nat} {c : Nat} : ∀ p, (∀ i, i < p → f i = g i) → crcTo f c p = crcTo g c p
  | 0, _ => rfl
  | p + 1, h => by
    show step (crcTo f c p) (f p) = step (crcTo g c p) (g p)
    rw [crcTo_congr p (fun i hi => h i (by omega)), h p (by omega)]
def zs (m x : Nat) : Nat := crcTo (fun _ => 0) x m
theorem zs_xor (m x y : Nat) : zs m (x ^^^ y) = zs m x ^^^ zs m y := by
  have h := crcTo_xor (fun _ => 0) (fun _ => 0) x y m
  unfold zs
  rw [← h]
  exact crcTo_congr m (fun _ _ => rfl)
theorem zs_ne {x : Nat} (h : x < 2 ^ 32) (h0 : x ≠ 0) : ∀ m, zs m x ≠ 0
  | 0 => h0
  | m + 1 => step_ne (crcTo_lt h m) (zs_ne h h0 m)
theorem zs_zero : ∀ m, zs m 0 = 0
  | 0 => rfl
  | m + 1 => by
    show step (zs m 0) 0 = 0
    rw [zs_zero m]
    decide
theorem step_even (x : Nat) : step (2 * x) 0 = x := by
  unfold step back
  rw [Nat.xor_zero, if_neg (by omega), Nat.xor_zero]
  omega
theorem zs_step (m x : Nat) : zs (m + 1) x = zs m (step x 0) := by
  have := crcTo_add (fun _ => 0) x 1 m
  unfold zs
  rw [Nat.add_comm m 1, this]
  exact crcTo_congr m (fun _ _ => rfl)
theorem zs_pow (b : Nat) : ∀ m, zs m (2 ^ m * b) = b
  | 0 => by show 2 ^ 0 * b = b; omega
  | m + 1 => by
    rw [zs_step, show 2 ^ (m + 1) * b = 2 * (2 ^ m * b) by rw [Nat.pow_succ]; ac_rfl, step_even]
    exact zs_pow b m
/-- m bits as a number, the first the lowest. -/
def num (f : Nat → Nat) : Nat → Nat
  | 0 => 0
  | m + 1 => num f m ^^^ 2 ^ m * f m
theorem num_lt {f : Nat → Nat} (hf : ∀ i, f i < 2) : ∀ m, num f m < 2 ^ m
  | 0 => by show 0 < 2 ^ 0; decide
  | m + 1 => by
    show num f m ^^^ 2 ^ m * f m < 2 ^ (m + 1)
    have h1 := num_lt hf m
    have h2 := hf m
    have h3 : 2 ^ (m + 1) = 2 * 2 ^ m := by rw [Nat.pow_succ]; omega
    have h4 : 2 ^ m * f m < 2 ^ (m + 1) := by
      rcases (show f m = 0 ∨ f m = 1 by omega) with e | e <;> rw [e] <;> omega
    exact Nat.xor_lt_two_pow (by omega) h4
theorem num_ne {f : Nat → Nat} (hf : ∀ i, f i < 2) : ∀ m, (∃ i, i < m ∧ f i ≠ 0) → num f m ≠ 0
  | 0, ⟨_, h, _⟩ => absurd h (Nat.not_lt_zero _)
  | m + 1, ⟨i, hi, hne⟩ => by
    show num f m ^^^ 2 ^ m * f m ≠ 0
    intro hx
    have hx' := Gf.eq_of_xor hx
    have hlt := num_lt hf m
    have h2 := hf m
    rcases (show f m = 0 ∨ f m = 1 by omega) with e | e
    · rw [e, Nat.mul_zero] at hx'
      refine num_ne hf m ⟨i, ?_, hne⟩ hx'
      rcases Nat.lt_succ_iff_lt_or_eq.1 hi with h | h
      · exact h
      · rw [h, e] at hne; exact absurd rfl hne
    · rw [e] at hx'
      omega
/-- Bits that come in one by one, or at once. -/
theorem crcTo_num {f : Nat → Nat} (hf : ∀ i, f i < 2) (c : Nat) : ∀ m, crcTo f c m = zs m (c ^^^ num f m)
  | 0 => by show c = c ^^^ 0; rw [Nat.xor_zero]
  | m + 1 => by
    show step (crcTo f c m) (f m) = step (zs m (c ^^^ (num f m ^^^ 2 ^ m * f m))) 0
    rw [step_bit _ _ (hf m), crcTo_num hf c m, ← Nat.xor_assoc, zs_xor m (c ^^^ num f m), zs_pow]
/-- A burst of at most 32 bits is seen. -/
theorem burst_seen {f g : Nat → Nat} (hf : ∀ i, f i < 2) (hg : ∀ i, g i < 2) (c n a : Nat) (h : ∀ p, p < n → f p ≠ g p → a ≤ p ∧ p < a + 32) (hne : ∃ p, p < n ∧ f p ≠ g p) : crcTo f c n ≠ crcTo g c n := by
  intro he
  have hd : crcTo (fun i => f i ^^^ g i) 0 n = 0 := by
    have := crcTo_xor f g c c n
    rw [Nat.xor_self] at this
    rw [this, he, Nat.xor_self]
  have hb : ∀ i, f i ^^^ g i < 2 := fun i => Nat.xor_lt_two_pow (n := 1) (hf i) (hg i)
  have hz : ∀ p, p < n → ¬ (a ≤ p ∧ p < a + 32) → f p ^^^ g p = 0 := fun p hp hno => by
    have : f p = g p := Classical.byContradiction fun hx => hno (h p hp hx)
    rw [this, Nat.xor_self]
  obtain ⟨q, hq, hqne⟩ := hne
  have haq := h q hq hqne
  have h0 : crcTo (fun i => f i ^^^ g i) 0 a = 0 := by
    rw [crcTo_congr (g := fun _ => 0) a (fun i hi => hz i (by omega) (by omega))]
    exact zs_zero a
  -- the window: m bits from a on
  obtain ⟨m, hm32, hmn, hqm, hrest⟩ : ∃ m, m ≤ 32 ∧ a + m ≤ n ∧ q < a + m ∧ ∀ p, a + m ≤ p → p < n → ¬ (a ≤ p ∧ p < a + 32) := by
    by_cases hc : a + 32 ≤ n
    · exact ⟨32, Nat.le_refl _, hc, haq.2, fun p h1 _ => by omega⟩
    · exact ⟨n - a, by omega, by omega, by omega, fun p h1 h2 => by omega⟩
  have h1 : crcTo (fun i => f i ^^^ g i) 0 (a + m) = zs m (num (fun i => f (a + i) ^^^ g (a + i)) m) := by
    rw [crcTo_add, h0, crcTo_num (fun i => hb (a + i)), Nat.zero_xor]
  have hnz : num (fun i => f (a + i) ^^^ g (a + i)) m ≠ 0 := num_ne (fun i => hb (a + i)) m ⟨q - a, by omega, by
    show f (a + (q - a)) ^^^ g (a + (q - a)) ≠ 0
    rw [show a + (q - a) = q by omega]
    exact Gf.xor_ne hqne⟩
  have hlt : num (fun i => f (a + i) ^^^ g (a + i)) m < 2 ^ 32 := Nat.lt_of_lt_of_le (num_lt (fun i => hb (a + i)) m) (Nat.pow_le_pow_right (by decide) hm32)
  have h2 : crcTo (fun i => f i ^^^ g i) 0 n = zs (n - (a + m)) (zs m (num (fun i => f (a + i) ^^^ g (a + i)) m)) := by
    rw [← h1]
    have := crcTo_add (fun i => f i ^^^ g i) 0 (a + m) (n - (a + m))
    rw [show a + m + (n - (a + m)) = n by omega] at this
    rw [this]
    exact crcTo_congr _ (fun i hi => hz (a + m + i) (by omega) (hrest _ (by omega) (by omega)))
  exact zs_ne (crcTo_lt hlt m) (zs_ne hlt hnz m) _ (h2.symm.trans hd)
end Go.Proofs.YtoapbjifkjehhaaGreatDoor.Crc
/- A text's remainder, its four bytes, a text without its last four: definitions. -/
namespace Go.Proofs.YtoapbjifkjehhaaGreatDoor
open Go.RowKit
/-- Bit p of a text, the lowest of each byte first. -/
def tbit (s : ByteArray) (p : Nat) : Nat := Gf.bitOf (Gf.nth (bytesOf s) (p / 8)) (p % 8)
theorem tbit_lt (s : ByteArray) (p : Nat) : tbit s p < 2 := Nat.mod_lt _ (by decide)
/-- The remainder of a text, ahead of the last turn. -/
def crcS (s : ByteArray) : Nat := Crc.crcTo (tbit s) 4294967295 (8 * s.size)
theorem crcS_lt (s : ByteArray) : crcS s < 2 ^ 32 := Crc.crcTo_lt (by decide) _
def crcOf (s : ByteArray) : Nat := crcS s ^^^ 4294967295
theorem crcOf_lt (s : ByteArray) : crcOf s < 2 ^ 32 := Nat.xor_lt_two_pow (crcS_lt s) (by decide)
theorem step_one {c q b : Nat} (h : (c ^^^ q) % 2 = 1) (hb : b = q % 2) : Crc.step c b = c / 2 ^^^ 3988292384 := by
  unfold Crc.step Crc.back
  rw [Crc.xor_mod2] at h ⊢
  rw [if_pos (by rw [hb]; omega)]
  rfl
theorem step_none {c q b : Nat} (h : (c ^^^ q) % 2 = 0) (hb : b = q % 2) : Crc.step c b = c / 2 := by
  unfold Crc.step Crc.back
  rw [Crc.xor_mod2] at h ⊢
  rw [if_neg (by rw [hb]; omega), Nat.xor_zero]
/-- Four bytes of a number, the highest first. -/
def fourL (n : Nat) : List Nat := [n / 16777216 % 256, n / 65536 % 256, n / 256 % 256, n % 256]
def fourT (n : Nat) : ByteArray := strOf (fourL n)
/-- All but the last four bytes; those. -/
def cutT (s : ByteArray) : ByteArray := s.extract 0 (s.size - 4)
def endT (s : ByteArray) : ByteArray := s.extract (s.size - 4) s.size
theorem cutT_size (s : ByteArray) : (cutT s).size = s.size - 4 := by unfold cutT; simp
theorem toListInj {a b : ByteArray} (h : a.toList = b.toList) : a = b := by
  rw [ByteArray.toList_eq, ByteArray.toList_eq] at h
  exact ByteArray.ext (Array.toList_inj.1 h)
theorem u32_xor_nat (a b : Nat) (ha : a < 4294967296) (hb : b < 4294967296) : bits .xor .u32 (a : Int) (b : Int) = ((a ^^^ b : Nat) : Int) := by
  have hx : a ^^^ b < 2 ^ 32 := Nat.xor_lt_two_pow (by omega) (by omega)
  show IntKind.u32.wrap ((BitVec.ofInt 32 (a : Int) ^^^ BitVec.ofInt 32 (b : Int)).toNat : Int) = _
  rw [BitVec.toNat_xor, BitVec.ofInt_natCast, BitVec.ofInt_natCast, BitVec.toNat_ofNat, BitVec.toNat_ofNat, Nat.mod_eq_of_lt (by omega), Nat.mod_eq_of_lt (by omega)]
  show ((a ^^^ b : Nat) : Int) % 4294967296 = _
  omega
end Go.Proofs.YtoapbjifkjehhaaGreatDoor
/- A text with its sum behind it: what is cut off, what is left; bits that are turned in the text alone, within 32 that follow one another: the sum behind it is another one. -/
namespace Go.Proofs.YtoapbjifkjehhaaGreatDoor
open Go.RowKit
theorem bytesOf_append (a b : ByteArray) : bytesOf (a ++ b) = bytesOf a ++ bytesOf b := by
  unfold bytesOf
  simp [ByteArray.data_append]
theorem bytesOf_inj {a b : ByteArray} (h : bytesOf a = bytesOf b) : a = b := by rw [← strOf_bytesOf a, h, strOf_bytesOf]
theorem bytesOf_extract (s : ByteArray) (a b : Nat) : bytesOf (s.extract a b) = ((bytesOf s).take b).drop a := by
  unfold bytesOf
  rw [ByteArray.data_extract]
  simp [List.map_take, List.map_drop, List.drop_take]
theorem bytesOf_cut (s : ByteArray) : bytesOf (cutT s) = (bytesOf s).take (s.size - 4) := by
  unfold cutT
  rw [bytesOf_extract, List.drop_zero]
theorem bytesOf_end (s : ByteArray) : bytesOf (endT s) = (bytesOf s).drop (s.size - 4) := by
  unfold endT
  rw [bytesOf_extract, ← bytesOf_length, List.take_length]
theorem fourL_bytes (n : Nat) : Gf.Bytes (fourL n) := fun i => by
  match i with
  | 0 => show n / 16777216 % 256 < 256; omega
  | 1 => show n / 65536 % 256 < 256; omega
  | 2 => show n / 256 % 256 < 256; omega
  | 3 => show n % 256 < 256; omega
  | i + 4 => rw [nth_past (by show 4 ≤ i + 4; omega)]; decide
theorem bytesOf_four (n : Nat) : bytesOf (fourT n) = fourL n := bytesOf_strOf (fourL_bytes n)
theorem fourT_size (n : Nat) : (fourT n).size = 4 := by unfold fourT; rw [strOf_size]; rfl
theorem fourT_inj {n m : Nat} (hn : n < 2 ^ 32) (hm : m < 2 ^ 32) (h : fourT n = fourT m) : n = m := by
  have h1 : fourL n = fourL m := by rw [← bytesOf_four, ← bytesOf_four, h]
  unfold fourL at h1
  simp only [List.cons.injEq, and_true] at h1
  omega
/-- A text and its sum. -/
def sealT (s : ByteArray) : ByteArray := s ++ fourT (crcOf s)
theorem sealT_size (s : ByteArray) : (sealT s).size = s.size + 4 := by
  unfold sealT
  rw [← bytesOf_length, bytesOf_append, List.length_append, bytesOf_length, bytesOf_length, fourT_size]
theorem seal_cut (s : ByteArray) : cutT (sealT s) = s := by
  refine bytesOf_inj ?_
  rw [bytesOf_cut, sealT_size]
  unfold sealT
  rw [bytesOf_append, Nat.add_sub_cancel, ← bytesOf_length, List.take_left']
  rfl
theorem seal_end (s : ByteArray) : endT (sealT s) = fourT (crcOf s) := by
  refine bytesOf_inj ?_
  rw [bytesOf_end, sealT_size]
  unfold sealT
  rw [bytesOf_append, Nat.add_sub_cancel, ← bytesOf_length, List.drop_left']
  rfl
/-- Bit p of bytes. -/
def lbit (l : List Nat) (p : Nat) : Nat := Gf.bitOf (Gf.nth l (p / 8)) (p % 8)
theorem lbit_lt (l : List Nat) (p : Nat) : lbit l p < 2 := Nat.mod_lt _ (by decide)
theorem bitOf_pow (j k : Nat) : Gf.bitOf (2 ^ j) k = if j = k then 1 else 0 := by
  have h : Gf.bitOf (2 ^ j) k = ((2 ^ j).testBit k).toNat := by
    unfold Gf.bitOf
    rw [Nat.testBit_eq_decide_div_mod_eq]
    rcases Nat.mod_two_eq_zero_or_one (2 ^ j / 2 ^ k) with e | e <;> simp [e]
  rw [h, Nat.testBit_two_pow]
  by_cases e : j = k
  · rw [if_pos e]; simp [e]
  · rw [if_neg e]; simp [e]
theorem byte_ext {x y : Nat} (hx : x < 256) (hy : y < 256) (h : ∀ j, j < 8 → Gf.bitOf x j = Gf.bitOf y j) : x = y := by
  refine Nat.eq_of_testBit_eq fun j => ?_
  by_cases hj : j < 8
  · have := h j hj
    unfold Gf.bitOf at this
    rw [Nat.testBit_eq_decide_div_mod_eq, Nat.testBit_eq_decide_div_mod_eq, this]
  · have hp : 256 ≤ 2 ^ j := by
      have := Nat.pow_le_pow_right (n := 2) (by decide) (show 8 ≤ j by omega)
      exact this
    rw [Nat.testBit_lt_two_pow (by omega), Nat.testBit_lt_two_pow (by omega)]
/-- One bit turned. -/
def flip1 (l : List Nat) (p : Nat) : List Nat := l.set (p / 8) (Gf.nth l (p / 8) ^^^ 2 ^ (p % 8))
theorem flip1_length (l : List Nat) (p : Nat) : (flip1 l p).length = l.length := by simp [flip1]
theorem nth_set {l : List Nat} {i j v : Nat} (hi : i < l.length) : Gf.nth (l.set i v) j = if j = i then v else Gf.nth l j := by
  show (l.set i v).getD j 0 = if j = i then v else l.getD j 0
  rw [List.getD_eq_getElem?_getD, List.getElem?_set]
  by_cases e : i = j
  · rw [if_pos e, if_pos hi, if_pos e.symm]; rfl
  · rw [if_neg e, if_neg (fun h => e h.symm), List.getD_eq_getElem?_getD]
theorem flip1_bytes {l : List Nat} (h : Gf.Bytes l) {p : Nat} (hp : p / 8 < l.length) : Gf.Bytes (flip1 l p) := fun i => by
  unfold flip1
  rw [nth_set hp]
  have h2 : 2 ^ (p % 8) < 256 := Nat.lt_of_lt_of_le (Nat.pow_lt_pow_right (by decide) (Nat.mod_lt p (by decide : 0 < 8))) (by decide)
  split
  · exact Gf.xlt (h _) h2
  · exact h i
theorem lbit_flip1 {l : List Nat} {p : Nat} (hp : p / 8 < l.length) (q : Nat) : lbit (flip1 l p) q = if q = p then (lbit l q + 1) % 2 else lbit l q := by
  unfold lbit flip1
  rw [nth_set hp]
  by_cases e : q / 8 = p / 8
  · rw [if_pos e, Gf.bit_xor, bitOf_pow, ← e]
    by_cases e2 : q = p
    · rw [if_pos e2, if_pos (by rw [e2])]
    · rw [if_neg e2, if_neg (by omega), Nat.add_zero]
      exact Nat.mod_eq_of_lt (lbit_lt l q)
  · rw [if_neg e, if_neg (fun h => e (by rw [h]))]
/-- The bits of a burst from a on that lie in the first m bits, turned one by one. -/
def flipTo (l : List Nat) (m a burst : Nat) : Nat → List Nat
  | 0 => l
  | i + 1 => if burst / 2 ^ i % 2 = 1 ∧ a + i < m then flip1 (flipTo l m a burst i) (a + i) else flipTo l m a burst i
theorem flipTo_length (l : List Nat) (m a burst : Nat) : ∀ i, (flipTo l m a burst i).length = l.length
  | 0 => rfl
  | i + 1 => by
    show (if _ then _ else _ : List Nat).length = _
    split
    · rw [flip1_length, flipTo_length l m a burst i]
    · exact flipTo_length l m a burst i
theorem flipTo_bytes {l : List Nat} (h : Gf.Bytes l) {m : Nat} (hm : m ≤ 8 * l.length) (a burst : Nat) : ∀ i, Gf.Bytes (flipTo l m a burst i)
  | 0 => h
  | i + 1 => by
    show Gf.Bytes (if _ then _ else _ : List Nat)
    split
    · exact flip1_bytes (flipTo_bytes h hm a burst i) (by rw [flipTo_length]; omega)
    · exact flipTo_bytes h hm a burst i
theorem lbit_flipTo {l : List Nat} {m : Nat} (hm : m ≤ 8 * l.length) (a burst q : Nat) : ∀ i, (¬ (a ≤ q ∧ q < a + i ∧ q < m)) → lbit (flipTo l m a burst i) q = lbit l q
  | 0, _ => rfl
  | i + 1, h => by
    show lbit (if _ then _ else _ : List Nat) q = _
    split
    · rename_i hc
      rw [lbit_flip1 (by rw [flipTo_length]; omega), if_neg (by omega)]
      exact lbit_flipTo hm a burst q i (by omega)
    · exact lbit_flipTo hm a burst q i (by omega)
theorem ext_of_bits {l m : List Nat} (hl : Gf.Bytes l) (hm : Gf.Bytes m) (hlen : l.length = m.length) (h : ∀ q, q < 8 * l.length → lbit l q = lbit m q) : l = m := by
  refine nth_ext hlen fun i hi => byte_ext (hl i) (hm i) fun j hj => ?_
  have := h (8 * i + j) (by omega)
  unfold lbit at this
  rw [show (8 * i + j) / 8 = i by omega, show (8 * i + j) % 8 = j by omega] at this
  exact this
theorem tbit_lbit (s : ByteArray) : tbit s = lbit (bytesOf s) := rfl
/-- A burst in the text alone is seen: the sum that stands behind it is not its own. -/
theorem burst_open (s : ByteArray) (a burst i : Nat) (hi : i ≤ 32) (hne : strOf (flipTo (bytesOf (sealT s)) (8 * s.size) a burst i) ≠ sealT s) :
    fourT (crcOf (cutT (strOf (flipTo (bytesOf (sealT s)) (8 * s.size) a burst i)))) ≠ endT (strOf (flipTo (bytesOf (sealT s)) (8 * s.size) a burst i)) := by
  have hll : (bytesOf (sealT s)).length = s.size + 4 := by rw [bytesOf_length, sealT_size]
  have hm : 8 * s.size ≤ 8 * (bytesOf (sealT s)).length := by omega
  have hB := flipTo_bytes (bytesOf_lt (sealT s)) hm a burst i
  have hL : (flipTo (bytesOf (sealT s)) (8 * s.size) a burst i).length = s.size + 4 := by rw [flipTo_length, hll]
  have hbits := fun q => lbit_flipTo hm a burst q i
  generalize flipTo (bytesOf (sealT s)) (8 * s.size) a burst i = l at *
  have hts : (strOf l).size = s.size + 4 := by rw [strOf_size, hL]
  have hcb : bytesOf (cutT (strOf l)) = l.take s.size := by rw [bytesOf_cut, bytesOf_strOf hB, hts, Nat.add_sub_cancel]
  have hcs : (cutT (strOf l)).size = s.size := by rw [cutT_size, hts, Nat.add_sub_cancel]
  have htk : ∀ q, q < 8 * s.size → lbit (l.take s.size) q = lbit l q := fun q hq => by
    unfold lbit
    congr 1
    show (l.take s.size).getD (q / 8) 0 = l.getD (q / 8) 0
    rw [List.getD_eq_getElem?_getD, List.getD_eq_getElem?_getD, List.getElem?_take_of_lt (by omega)]
  have hsb : ∀ q, q < 8 * s.size → lbit (bytesOf s) q = lbit (bytesOf (sealT s)) q := fun q hq => by
    unfold lbit
    congr 1
    unfold sealT
    rw [bytesOf_append]
    show (bytesOf s).getD (q / 8) 0 = (bytesOf s ++ bytesOf (fourT (crcOf s))).getD (q / 8) 0
    rw [List.getD_eq_getElem?_getD, List.getD_eq_getElem?_getD, List.getElem?_append_left (by rw [bytesOf_length]; omega)]
  -- what stands behind the text is as it was
  have hend : endT (strOf l) = fourT (crcOf s) := by
    rw [← seal_end s]
    refine bytesOf_inj ?_
    rw [bytesOf_end, bytesOf_end, bytesOf_strOf hB, hts, sealT_size, Nat.add_sub_cancel]
    refine nth_ext (by rw [List.length_drop, List.length_drop, hL, hll]) fun p hp => ?_
    rw [List.length_drop, hL] at hp
    have hg : Gf.nth l (s.size + p) = Gf.nth (bytesOf (sealT s)) (s.size + p) := byte_ext (hB _) (bytesOf_lt _ _) fun j hj => by
      have := hbits (8 * (s.size + p) + j) (by omega)
      unfold lbit at this
      rw [show (8 * (s.size + p) + j) / 8 = s.size + p by omega, show (8 * (s.size + p) + j) % 8 = j by omega] at this
      exact this
    show (l.drop s.size).getD p 0 = ((bytesOf (sealT s)).drop s.size).getD p 0
    rw [List.getD_eq_getElem?_getD, List.getD_eq_getElem?_getD, List.getElem?_drop, List.getElem?_drop]
    have hg' : l.getD (s.size + p) 0 = (bytesOf (sealT s)).getD (s.size + p) 0 := hg
    rw [List.getD_eq_getElem?_getD, List.getD_eq_getElem?_getD] at hg'
    exact hg'
  -- some bit of the text is another one
  have hdiff : ∃ q, q < 8 * s.size ∧ lbit (l.take s.size) q ≠ lbit (bytesOf s) q := Classical.byContradiction fun hno => hne (by
    have hall : ∀ q, q < 8 * (s.size + 4) → lbit l q = lbit (bytesOf (sealT s)) q := fun q hq => by
      by_cases h1 : q < 8 * s.size
      · rw [← htk q h1, ← hsb q h1]
        exact Classical.byContradiction fun h2 => hno ⟨q, h1, h2⟩
      · exact hbits q (by omega)
    have := ext_of_bits hB (bytesOf_lt (sealT s)) (by rw [hL, hll]) (fun q hq => hall q (by rw [hL] at hq; exact hq))
    rw [this, strOf_bytesOf])
  rw [hend]
  intro he
  have hc := fourT_inj (crcOf_lt _) (crcOf_lt _) he
  unfold crcOf at hc
  have hc2 : crcS (cutT (strOf l)) = crcS s := by
    have := congrArg (fun x => x ^^^ 4294967295) hc
    simp only [Nat.xor_assoc, Nat.xor_self, Nat.xor_zero] at this
    exact this
  unfold crcS at hc2
  rw [tbit_lbit, tbit_lbit, hcb, hcs] at hc2
  refine Crc.burst_seen (lbit_lt _) (lbit_lt _) 4294967295 (8 * s.size) a (fun q hq hx => ?_) hdiff hc2
  have h1 : ¬ ¬ (a ≤ q ∧ q < a + i ∧ q < 8 * s.size) := fun h2 => hx (by rw [htk q hq, hbits q h2, hsb q hq])
  have h3 := Classical.byContradiction h1
  omega
end Go.Proofs.YtoapbjifkjehhaaGreatDoor
/- One bit that is turned in a text with its sum behind it, in the text or in the sum: it is seen. -/
namespace Go.Proofs.YtoapbjifkjehhaaGreatDoor
open Go.RowKit
theorem flip_ne {l : List Nat} {p : Nat} (hp : p / 8 < l.length) : flip1 l p ≠ l := fun e => by
  have h := lbit_flip1 hp p
  rw [e, if_pos rfl] at h
  have := lbit_lt l p
  omega
theorem flip_open (x : ByteArray) (p : Nat) (hp : p < 8 * (x.size + 4)) :
    fourT (crcOf (cutT (strOf (flip1 (bytesOf (sealT x)) p)))) ≠ endT (strOf (flip1 (bytesOf (sealT x)) p)) := by
  have hll : (bytesOf (sealT x)).length = x.size + 4 := by rw [bytesOf_length, sealT_size]
  have hk : p / 8 < (bytesOf (sealT x)).length := by omega
  have hB := flip1_bytes (bytesOf_lt (sealT x)) hk
  have hne : strOf (flip1 (bytesOf (sealT x)) p) ≠ sealT x := fun e => by
    have h := congrArg bytesOf e
    rw [bytesOf_strOf hB] at h
    exact flip_ne hk h
  by_cases hin : p < 8 * x.size
  · have h1 : flip1 (bytesOf (sealT x)) p = flipTo (bytesOf (sealT x)) (8 * x.size) p 1 1 := by
      show _ = (if 1 / 2 ^ 0 % 2 = 1 ∧ p + 0 < 8 * x.size then flip1 (bytesOf (sealT x)) (p + 0) else bytesOf (sealT x))
      rw [if_pos ⟨by decide, by omega⟩]
      rfl
    rw [h1] at hne ⊢
    exact burst_open x p 1 1 (by decide) hne
  · have hL : (flip1 (bytesOf (sealT x)) p).length = x.size + 4 := by rw [flip1_length, hll]
    have hts : (strOf (flip1 (bytesOf (sealT x)) p)).size = x.size + 4 := by rw [strOf_size, hL]
    have hcut : cutT (strOf (flip1 (bytesOf (sealT x)) p)) = x := by
      refine bytesOf_inj ?_
      rw [bytesOf_cut, bytesOf_strOf hB, hts, Nat.add_sub_cancel]
      unfold flip1
      rw [List.take_set_of_le (by omega)]
      unfold sealT
      rw [bytesOf_append, List.take_append_of_le_length (by rw [bytesOf_length]; omega), List.take_of_length_le (by rw [bytesOf_length]; omega)]
    intro e
    rw [hcut] at e
    refine hne (bytesOf_inj ?_)
    have h2 := congrArg bytesOf e
    have h3 := congrArg bytesOf hcut
    rw [bytesOf_end, hts, Nat.add_sub_cancel] at h2
    rw [bytesOf_cut, hts, Nat.add_sub_cancel] at h3
    rw [← List.take_append_drop x.size (bytesOf (strOf (flip1 (bytesOf (sealT x)) p))), h3, ← h2]
    unfold sealT
    rw [bytesOf_append]
end Go.Proofs.YtoapbjifkjehhaaGreatDoor
/- Package sums: CRC of a text: what the document's arithmetic gives, bit by bit. -/
namespace Go.Proofs.YtoapbjifkjehhaaGreatDoor
open Go.RowKit
theorem u32_and_one (a : Nat) (ha : a < 4294967296) : bits .and .u32 (a : Int) 1 = ((a % 2 : Nat) : Int) := by
  show IntKind.u32.wrap ((BitVec.ofInt 32 (a : Int) &&& BitVec.ofInt 32 ((1 : Nat) : Int)).toNat : Int) = _
  rw [BitVec.toNat_and, BitVec.ofInt_natCast, BitVec.ofInt_natCast, BitVec.toNat_ofNat, BitVec.toNat_ofNat, Nat.mod_eq_of_lt (by omega), Nat.mod_eq_of_lt (by omega), Nat.and_one_is_mod]
  show ((a % 2 : Nat) : Int) % 4294967296 = _
  omega
theorem zs_succ (k c : Nat) : Crc.zs (k + 1) c = Crc.step (Crc.zs k c) 0 := rfl
theorem zs_lt {c : Nat} (h : c < 4294967296) (k : Nat) : Crc.zs k c < 4294967296 := Crc.crcTo_lt (by omega) k
set_option maxRecDepth 10000 in
set_option maxHeartbeats 1000000 in
theorem divided_any (c : Nat) (w : World) (hc : c < 4294967296) :
    Calls Tryz.prog 76 #[.int .u32 (c : Int)] w fun e w' => e = .returned (.int .u32 ((Crc.zs 8 c : Nat) : Int)) ∧ w' = w := by
  go_enter Tryz.func76, Tryz.ntmps76
  go_wp2
  go_loop [0, 4] (fun x i => ∃ k : Nat, k ≤ 8 ∧ i = .int .i64 k ∧ x = .int .u32 ((Crc.zs k c : Nat) : Int)) (fun _ i => 8 - (intOf i).toNat)
  case atStart => exact ⟨0, by omega, rfl, rfl⟩
  case round =>
    obtain ⟨k, hk, rfl, rfl⟩ := hrel
    have hlt := zs_lt hc k
    have HNX : Hid (Crc.zs (k + 1) c = Crc.step (Crc.zs k c) 0) := by show _ = _; rfl
    by_cases hkl : k < 8
    · have ha := u32_and_one (Crc.zs k c) hlt
      generalize Crc.zs k c = d at *
      rcases Nat.mod_two_eq_zero_or_one d with hp | hp
      · have HE : Hid (((d / 2 : Nat) : Int) = ((Crc.zs (k + 1) c : Nat) : Int)) := by show _ = _; rw [HNX.out, step_none (q := 0) (by rw [Nat.xor_zero]; exact hp) rfl]
        rw [hp] at ha
        clear hp
        go_wp2
        go_round
        case rel => exact ⟨k + 1, by omega, by go_num, by rw [← HE.out]; simp⟩
        case measure => simp [intOf]; omega
      · have HE : Hid (bits .xor .u32 ((d : Int) / 2) 3988292384 = ((Crc.zs (k + 1) c : Nat) : Int)) := by
          show _ = _
          rw [HNX.out, step_one (q := 0) (by rw [Nat.xor_zero]; exact hp) rfl, show ((d : Int) / 2) = ((d / 2 : Nat) : Int) by omega]
          exact u32_xor_nat (d / 2) 3988292384 (by omega) (by decide)
        rw [hp] at ha
        clear hp
        go_wp2
        go_round
        case rel => exact ⟨k + 1, by omega, by go_num, by rw [← HE.out]⟩
        case measure => simp [intOf]; omega
    · have hke : k = 8 := by omega
      subst hke
      go_wp2
      go_ret
      exact ⟨rfl, rfl⟩
theorem num_byte {y : Nat} (hy : y < 256) : Crc.num (fun k => Gf.bitOf y k) 8 = y := by
  revert y
  have h : ∀ y : Fin 256, Crc.num (fun k => Gf.bitOf y.1 k) 8 = y.1 := by decide +kernel
  intro y hy
  exact h ⟨y, hy⟩
theorem num_congr {f g : Nat → Nat} : ∀ m, (∀ i, i < m → f i = g i) → Crc.num f m = Crc.num g m
  | 0, _ => rfl
  | m + 1, h => by
    show Crc.num f m ^^^ 2 ^ m * f m = Crc.num g m ^^^ 2 ^ m * g m
    rw [num_congr m (fun i hi => h i (by omega)), h m (by omega)]
/-- The remainder byte by byte. -/
theorem crc_byte (s : ByteArray) (i : Nat) : Crc.crcTo (tbit s) 4294967295 (8 * (i + 1)) = Crc.zs 8 (Crc.crcTo (tbit s) 4294967295 (8 * i) ^^^ Gf.nth (bytesOf s) i) := by
  rw [show 8 * (i + 1) = 8 * i + 8 by omega, Crc.crcTo_add, Crc.crcTo_num (fun k => tbit_lt s _)]
  congr 2
  rw [← num_byte (bytesOf_lt s i)]
  refine num_congr 8 fun k hk => ?_
  show Gf.bitOf (Gf.nth (bytesOf s) ((8 * i + k) / 8)) ((8 * i + k) % 8) = _
  rw [show (8 * i + k) / 8 = i by omega, show (8 * i + k) % 8 = k by omega]
set_option maxRecDepth 10000 in
set_option maxHeartbeats 1000000 in
theorem crc_any (s : ByteArray) (w : World) (hs : s.size ≤ 1000000) :
    Calls Tryz.prog 53 #[.string s] w fun e w' => e = .returned (.int .u32 ((crcOf s : Nat) : Int)) ∧ w' = w := by
  go_enter Tryz.func53, Tryz.ntmps53
  go_wp2
  go_loop [3, 7] (fun c x => ∃ i : Nat, i ≤ s.size ∧ x = .int .i64 i ∧ c = .int .u32 ((Crc.crcTo (tbit s) 4294967295 (8 * i) : Nat) : Int)) (fun _ x => s.size - (intOf x).toNat)
  case atStart => exact ⟨0, Nat.zero_le _, rfl, rfl⟩
  case round =>
    obtain ⟨i, hi, rfl, rfl⟩ := hrel
    have hcl : Crc.crcTo (tbit s) 4294967295 (8 * i) < 4294967296 := Crc.crcTo_lt (by decide) _
    by_cases hil : i < s.size
    · have hix := run_idx s i hil
      have hy := bytesOf_lt s i
      have HNX : Hid (Crc.crcTo (tbit s) 4294967295 (8 * (i + 1)) = Crc.zs 8 (Crc.crcTo (tbit s) 4294967295 (8 * i) ^^^ Gf.nth (bytesOf s) i)) := crc_byte s i
      have hxl : Crc.crcTo (tbit s) 4294967295 (8 * i) ^^^ Gf.nth (bytesOf s) i < 4294967296 := Nat.xor_lt_two_pow (n := 32) hcl (by omega)
      have hx := u32_xor_nat (Crc.crcTo (tbit s) 4294967295 (8 * i)) (Gf.nth (bytesOf s) i) hcl (by omega)
      generalize Crc.crcTo (tbit s) 4294967295 (8 * i) = c at *
      generalize Gf.nth (bytesOf s) i = y at *
      generalize c ^^^ y = q at *
      have HD := fun W => divided_any q W hxl
      rw [← HNX.out] at HD
      clear hxl HNX
      go_wp2_with (go_at_call 76; refine (HD _).mono ?_; rintro e w' ⟨rfl, rfl⟩)
      go_round
      case rel => exact ⟨i + 1, by omega, by go_num, rfl⟩
      case measure => simp [intOf]; omega
    · have hie : i = s.size := by omega
      subst hie
      have HC : Hid (crcS s = Crc.crcTo (tbit s) 4294967295 (8 * s.size)) := by show _ = _; rfl
      have HX : Hid (bits .xor .u32 IntKind.u32.max ((Crc.crcTo (tbit s) 4294967295 (8 * s.size) : Nat) : Int) = ((crcOf s : Nat) : Int)) := by
        show _ = _
        have h := u32_xor_nat 4294967295 (Crc.crcTo (tbit s) 4294967295 (8 * s.size)) (by decide) hcl
        unfold crcOf
        rw [HC.out, Nat.xor_comm]
        exact h
      go_wp2
      go_ret
      exact ⟨ret_int HX.out, rfl⟩
end Go.Proofs.YtoapbjifkjehhaaGreatDoor
