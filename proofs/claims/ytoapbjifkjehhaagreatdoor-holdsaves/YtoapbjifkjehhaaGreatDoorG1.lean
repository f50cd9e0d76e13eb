/- Small facts on bits and numbers that the walks ask. -/
import Derived.Test.YtoapbjifkjehhaaGreatDoorProg
import Derived.Test.YtoapbjifkjehhaaGreatDoorGfAll
import Derived.WalkKit
import Derived.Laws.BitsAllLaws
import Derived.Laws.BitsLemmas
import Derived.Laws.BytesArg
import Derived.WalkSmall
import Derived.Below
namespace Go.Proofs.YtoapbjifkjehhaaGreatDoor
open Go.RowKit
theorem ret_int {k : IntKind} {a b : Int} (h : a = b) : Ending.returned (.int k a) = .returned (.int k b) := by rw [h]
theorem ret_bool {a b : Bool} (h : a = b) : Ending.returned (.bool a) = .returned (.bool b) := by rw [h]
theorem bit_test (b k : Nat) (hb : b < 256) : (bits BinOp.and IntKind.u8 ((b : Int) / 2 ^ k) 1 == 1) = decide (Gf.bitOf b k = 1) := by
  have h1 : ((b : Int) / 2 ^ k) = ((b / 2 ^ k : Nat) : Int) := by simp
  have h2 : b / 2 ^ k < 256 := Nat.lt_of_le_of_lt (Nat.div_le_self _ _) hb
  have h3 : bits BinOp.and IntKind.u8 ((b / 2 ^ k : Nat) : Int) 1 = ((b / 2 ^ k % 2 : Nat) : Int) := by
    have := u8_and_nat (b / 2 ^ k) 1 h2 (by decide)
    rw [Nat.and_one_is_mod] at this
    exact this
  rw [h1, h3]
  unfold Gf.bitOf
  rcases Nat.mod_two_eq_zero_or_one (b / 2 ^ k) with h | h <;> rw [h] <;> rfl
theorem bit_test64 (b k : Nat) (hb : b < 256) : (bits BinOp.and IntKind.i64 ((b : Int) / 2 ^ k) 1 == 1) = decide (Gf.bitOf b k = 1) := by
  have h1 : ((b : Int) / 2 ^ k) = ((b / 2 ^ k : Nat) : Int) := by simp
  have h2 : b / 2 ^ k < 256 := Nat.lt_of_le_of_lt (Nat.div_le_self _ _) hb
  have h3 : bits BinOp.and IntKind.i64 ((b / 2 ^ k : Nat) : Int) 1 = ((b / 2 ^ k % 2 : Nat) : Int) := by
    have := bits_mask IntKind.i64 8 (by decide) (fun n h0 h1 => by rw [IntKind.wrap_i64]; omega) 1 (by decide) ((b / 2 ^ k : Nat) : Int) (Int.natCast_nonneg _) (by exact_mod_cast h2)
    rw [show ((2 : Int) ^ 1 - 1) = 1 from rfl] at this
    rw [this]
    rfl
  rw [h1, h3]
  unfold Gf.bitOf
  rcases Nat.mod_two_eq_zero_or_one (b / 2 ^ k) with h | h <;> rw [h] <;> rfl
/-- n within the first round of 255. -/
def red (n : Int) : Nat := (n % 255).toNat
theorem red_cast (n : Int) : ((red n : Nat) : Int) = n % 255 := by unfold red; omega
theorem red_lt (n : Int) : red n < 255 := by unfold red; omega
theorem tmod_neg (n : Int) : n.tmod 255 = -((-n).tmod 255) := by rw [Int.neg_tmod, Int.neg_neg]
theorem i64_xor_nat (a b : Nat) (ha : a < 2 ^ 62) (hb : b < 2 ^ 62) : bits .xor .i64 (a : Int) (b : Int) = ((a ^^^ b : Nat) : Int) := by
  have hx : a ^^^ b < 2 ^ 62 := Nat.xor_lt_two_pow ha hb
  show IntKind.i64.wrap ((BitVec.ofInt 64 (a : Int) ^^^ BitVec.ofInt 64 (b : Int)).toNat : Int) = _
  rw [BitVec.toNat_xor, BitVec.ofInt_natCast, BitVec.ofInt_natCast, BitVec.toNat_ofNat, BitVec.toNat_ofNat, Nat.mod_eq_of_lt (by omega), Nat.mod_eq_of_lt (by omega), IntKind.wrap_i64]
  omega
theorem wrap64_small (n : Nat) (h : n < 2 ^ 62) : wrap64 (n : Int) = (n : Int) := by
  unfold wrap64; omega
theorem tmod_test (b k : Nat) : (((b : Int) / 2 ^ k).tmod 2 == 1) = decide (Gf.bitOf b k = 1) := by
  have h1 : ((b : Int) / 2 ^ k) = ((b / 2 ^ k : Nat) : Int) := by simp
  rw [h1, Int.tmod_eq_emod_of_nonneg (Int.natCast_nonneg _)]
  unfold Gf.bitOf
  have h3 : (((b / 2 ^ k : Nat) : Int) % 2) = ((b / 2 ^ k % 2 : Nat) : Int) := by simp
  rw [h3]
  rcases Nat.mod_two_eq_zero_or_one (b / 2 ^ k) with h | h <;> rw [h] <;> rfl
end Go.Proofs.YtoapbjifkjehhaaGreatDoor
/- Bytes as a text. -/
namespace Go.Proofs.YtoapbjifkjehhaaGreatDoor
open Go.RowKit
/-- Bytes as a text. -/
def strOf (l : List Nat) : ByteArray := strOfNums (l.map Int.ofNat)
end Go.Proofs.YtoapbjifkjehhaaGreatDoor
/- Texts and their bytes. -/
namespace Go.Proofs.YtoapbjifkjehhaaGreatDoor
open Go.RowKit
/-- A text's bytes. -/
def bytesOf (s : ByteArray) : List Nat := s.data.toList.map UInt8.toNat
theorem bytesOf_lt (s : ByteArray) : Gf.Bytes (bytesOf s) := fun i => by
  by_cases hi : i < (bytesOf s).length
  · rw [Gf.nth_getElem _ i hi]
    simp only [bytesOf, List.getElem_map]
    exact UInt8.toNat_lt _
  · show (bytesOf s).getD i 0 < 256
    rw [List.getD_eq_getElem?_getD, List.getElem?_eq_none (by omega)]
    decide
theorem bytesOf_nth (s : ByteArray) (i : Nat) (h : i < s.size) : Gf.nth (bytesOf s) i = (s[i]'h).toNat := by
  rw [Gf.nth_getElem _ i (by simpa [bytesOf] using h)]
  simp only [bytesOf, List.getElem_map]
  rfl
theorem bytesOf_length (s : ByteArray) : (bytesOf s).length = s.size := by simp [bytesOf]
theorem mem_bytes {l : List Nat} (h : Gf.Bytes l) {x : Nat} (hx : x ∈ l) : x < 256 := by
  obtain ⟨i, hi, rfl⟩ := List.getElem_of_mem hx
  have := h i
  rwa [Gf.nth_getElem l i hi] at this
theorem bytesOf_strOf {l : List Nat} (h : Gf.Bytes l) : bytesOf (strOf l) = l := by
  unfold bytesOf strOf
  rw [strOfNums_data, List.map_map, List.map_map]
  conv => rhs; rw [← List.map_id l]
  refine List.map_congr_left fun x hx => ?_
  have := mem_bytes h hx
  simp only [Function.comp]
  show (UInt8.ofNat x).toNat = x
  simp only [UInt8.toNat_ofNat']
  omega
theorem strOf_bytesOf (s : ByteArray) : strOf (bytesOf s) = s := by
  unfold bytesOf strOf strOfNums
  rw [List.map_map, List.map_map]
  have : (List.map (((fun n : Int => UInt8.ofNat n.toNat) ∘ Int.ofNat) ∘ UInt8.toNat) s.data.toList) = s.data.toList := by
    conv => rhs; rw [← List.map_id s.data.toList]
    refine List.map_congr_left fun x _ => ?_
    show UInt8.ofNat x.toNat = x
    exact UInt8.ofNat_toNat
  rw [this]
theorem strOf_size (l : List Nat) : (strOf l).size = l.length := by
  unfold strOf
  rw [strOfNums_size, List.length_map]
theorem run_idx (s : ByteArray) (i : Nat) (h : i < s.size) (W : World) : Sem.run Tryz.prog (Instr.index 9 (.string s) (.int .i64 (i : Int))) W = .ok (.int .u8 ((Gf.nth (bytesOf s) i : Nat) : Int)) W := by
  rw [run_index_string W 9 s .i64 _ Tryz.underlying9, dif_pos ⟨by omega, by omega⟩, bytesOf_nth s i h]
  congr 3
theorem nth_ext {l m : List Nat} (hl : l.length = m.length) (h : ∀ i, i < l.length → Gf.nth l i = Gf.nth m i) : l = m := by
  refine List.ext_getElem hl fun i h1 h2 => ?_
  rw [← Gf.nth_getElem l i h1, ← Gf.nth_getElem m i h2]
  exact h i h1
theorem nth_past {l : List Nat} {i : Nat} (h : l.length ≤ i) : Gf.nth l i = 0 := by
  show l.getD i 0 = 0
  rw [List.getD_eq_getElem?_getD, List.getElem?_eq_none h]
  rfl
end Go.Proofs.YtoapbjifkjehhaaGreatDoor
/- Texts that lie in memory, one behind the other. -/
namespace Go.Proofs.YtoapbjifkjehhaaGreatDoor
open Go.RowKit
def txt (l : List ByteArray) (i : Nat) : ByteArray := l.getD i ⟨#[]⟩
theorem txt_getElem (l : List ByteArray) (i : Nat) (h : i < l.length) : txt l i = l[i] := by
  unfold txt
  rw [List.getD_eq_getElem?_getD, List.getElem?_eq_getElem h]
  rfl
theorem txt_mem {l : List ByteArray} {i : Nat} (h : i < l.length) : txt l i ∈ l := by
  rw [txt_getElem l i h]
  exact List.getElem_mem h
theorem txt_of_mem {l : List ByteArray} {x : ByteArray} (h : x ∈ l) : ∃ i, i < l.length ∧ txt l i = x := by
  obtain ⟨i, hi, e⟩ := List.getElem_of_mem h
  exact ⟨i, hi, by rw [txt_getElem l i hi, e]⟩
theorem txt_take {l : List ByteArray} {i j : Nat} (h : j < i) : txt (l.take i) j = txt l j := by
  unfold txt
  rw [List.getD_eq_getElem?_getD, List.getD_eq_getElem?_getD, List.getElem?_take_of_lt h]
theorem txt_ext {l m : List ByteArray} (hl : l.length = m.length) (h : ∀ i, i < l.length → txt l i = txt m i) : l = m := by
  refine List.ext_getElem hl fun i h1 h2 => ?_
  rw [← txt_getElem l i h1, ← txt_getElem m i h2]
  exact h i h1
/-- In the world w the texts l lie from p on. -/
def Strs (w : World) (p : Option Addr) (l : List ByteArray) : Prop :=
  l = [] ∨ ∃ b o, p = some ⟨b, o, none⟩ ∧ b < w.heap.size ∧ ∀ i, i < l.length → w.cell? ⟨b, o + i, none⟩ = some (.string (txt l i))
theorem Strs.nil (w : World) (p : Option Addr) : Strs w p [] := Or.inl rfl
theorem Strs.drewN {w : World} {p : Option Addr} {l : List ByteArray} (h : Strs w p l) (n : Nat) : Strs (w.drewN n) p l := h
theorem Strs.below {w w' : World} {p : Option Addr} {l : List ByteArray} (h : Strs w p l) (hb : Below w.heap.size w w') : Strs w' p l := by
  rcases h with h | ⟨b, o, hp, hlt, hc⟩
  · exact Or.inl h
  · exact Or.inr ⟨b, o, hp, Nat.lt_of_lt_of_le hlt hb.size, fun i hi => (hb.cell (p := ⟨b, o + i, none⟩) hlt).trans (hc i hi)⟩
/-- Below B alone nothing turned. -/
theorem Strs.belowAt {w w' : World} {p : Option Addr} {l : List ByteArray} {B : Nat} (h : Strs w p l) (hb : Below B w w') (hB : ∀ b o, p = some ⟨b, o, none⟩ → b < B) : Strs w' p l := by
  rcases h with h | ⟨b, o, hp, hlt, hc⟩
  · exact Or.inl h
  · exact Or.inr ⟨b, o, hp, Nat.lt_of_lt_of_le hlt hb.size, fun i hi => (hb.cell (p := ⟨b, o + i, none⟩) (hB b o hp)).trans (hc i hi)⟩
theorem Strs.take {w : World} {p : Option Addr} {l : List ByteArray} (h : Strs w p l) (i : Nat) : Strs w p (l.take i) := by
  rcases h with h | ⟨b, o, hp, hlt, hc⟩
  · exact Or.inl (by rw [h, List.take_nil])
  · refine Or.inr ⟨b, o, hp, hlt, fun j hj => ?_⟩
    rw [List.length_take] at hj
    rw [hc j (by omega), txt_take (by omega)]
theorem toList_ne {a b : ByteArray} (h : a ≠ b) : ¬ a.toList = b.toList := fun e => h (by
  rw [ByteArray.toList_eq, ByteArray.toList_eq] at e
  exact ByteArray.ext (Array.toList_inj.1 e))
theorem toList_beq {a b : ByteArray} (h : a ≠ b) : (a.toList == b.toList) = false := by simpa using toList_ne h
theorem bytes_beq {a b : ByteArray} (h : a ≠ b) : (a == b) = false := by rw [beq_toListBytes]; exact toList_beq h
end Go.Proofs.YtoapbjifkjehhaaGreatDoor
