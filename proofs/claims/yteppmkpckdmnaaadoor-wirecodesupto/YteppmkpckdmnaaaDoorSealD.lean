/- A text's remainder, its four bytes, a text without its last four: definitions. -/
import Derived.Test.YteppmkpckdmnaaaDoorTxtB
import Derived.Test.YteppmkpckdmnaaaDoorCrcM
namespace Go.Proofs.YteppmkpckdmnaaaDoor
open Go.RowKit
/-- Bit p of a text, the lowest of each byte first. -/
def tbit (s : ByteArray) (p : Nat) : Nat := Gf.bitOf (Gf.nth (bytesOf s) (p / 8)) (p % 8)
theorem tbit_lt (s : ByteArray) (p : Nat) : tbit s p < 2 := Nat.mod_lt _ (by decide)
/-- The remainder of a text, ahead of the last turn. -/
def crcS (s : ByteArray) : Nat := Crc.crcTo (tbit s) 4294967295 (8 * s.size)
theorem crcS_lt (s : ByteArray) : crcS s < 2 ^ 32 := Crc.crcTo_lt (by decide) _
def crcOf (s : ByteArray) : Nat := crcS s ^^^ 4294967295
theorem crcOf_lt (s : ByteArray) : crcOf s < 2 ^ 32 := Nat.xor_lt_two_pow (crcS_lt s) (by decide)
theorem step_one {c q b : Nat} (h : (c ^^^ q) % 2 = 1) (hb : b = q % 2) : Crc.step c b = c / 2 ^^^ 3988292384 := by
  unfold Crc.step Crc.back
  rw [Crc.xor_mod2] at h ⊢
  rw [if_pos (by rw [hb]; omega)]
  rfl
theorem step_none {c q b : Nat} (h : (c ^^^ q) % 2 = 0) (hb : b = q % 2) : Crc.step c b = c / 2 := by
  unfold Crc.step Crc.back
  rw [Crc.xor_mod2] at h ⊢
  rw [if_neg (by rw [hb]; omega), Nat.xor_zero]
/-- Four bytes of a number, the highest first. -/
def fourL (n : Nat) : List Nat := [n / 16777216 % 256, n / 65536 % 256, n / 256 % 256, n % 256]
def fourT (n : Nat) : ByteArray := strOf (fourL n)
/-- All but the last four bytes; those. -/
def cutT (s : ByteArray) : ByteArray := s.extract 0 (s.size - 4)
def endT (s : ByteArray) : ByteArray := s.extract (s.size - 4) s.size
theorem cutT_size (s : ByteArray) : (cutT s).size = s.size - 4 := by unfold cutT; simp
theorem toListInj {a b : ByteArray} (h : a.toList = b.toList) : a = b := by
  rw [ByteArray.toList_eq, ByteArray.toList_eq] at h
  exact ByteArray.ext (Array.toList_inj.1 h)
theorem u32_xor_nat (a b : Nat) (ha : a < 4294967296) (hb : b < 4294967296) : bits .xor .u32 (a : Int) (b : Int) = ((a ^^^ b : Nat) : Int) := by
  have hx : a ^^^ b < 2 ^ 32 := Nat.xor_lt_two_pow (by omega) (by omega)
  show IntKind.u32.wrap ((BitVec.ofInt 32 (a : Int) ^^^ BitVec.ofInt 32 (b : Int)).toNat : Int) = _
  rw [BitVec.toNat_xor, BitVec.ofInt_natCast, BitVec.ofInt_natCast, BitVec.toNat_ofNat, BitVec.toNat_ofNat, Nat.mod_eq_of_lt (by omega), Nat.mod_eq_of_lt (by omega)]
  show ((a ^^^ b : Nat) : Int) % 4294967296 = _
  omega
end Go.Proofs.YteppmkpckdmnaaaDoor
