/- Small facts on bits and numbers that the walks ask. -/
import Derived.Test.YtcoecfpkihakoaaDoorProg
import Derived.Test.YtcoecfpkihakoaaDoorGfAll
import Derived.WalkKit
import Derived.Laws.BitsAllLaws
import Derived.Laws.BitsLemmas
import Derived.Laws.BytesArg
import Derived.WalkSmall
import Derived.Test.YtcoecfpkihakoaaDoorGa0
import Derived.Below
import Derived.Test.YtcoecfpkihakoaaDoorRecB
import Derived.Laws.RangeAny
import Derived.Shelf.SlSortCmp.QuietGrown
import Derived.Deep.Heap
import Derived.Deep.QuietTactic
import Derived.BigQuiet
namespace Go.Proofs.YtcoecfpkihakoaaDoor
open Go.RowKit
theorem ret_int {k : IntKind} {a b : Int} (h : a = b) : Ending.returned (.int k a) = .returned (.int k b) := by rw [h]
theorem ret_bool {a b : Bool} (h : a = b) : Ending.returned (.bool a) = .returned (.bool b) := by rw [h]
theorem bit_test (b k : Nat) (hb : b < 256) : (bits BinOp.and IntKind.u8 ((b : Int) / 2 ^ k) 1 == 1) = decide (Gf.bitOf b k = 1) := by
  have h1 : ((b : Int) / 2 ^ k) = ((b / 2 ^ k : Nat) : Int) := by simp
  have h2 : b / 2 ^ k < 256 := Nat.lt_of_le_of_lt (Nat.div_le_self _ _) hb
  have h3 : bits BinOp.and IntKind.u8 ((b / 2 ^ k : Nat) : Int) 1 = ((b / 2 ^ k % 2 : Nat) : Int) := by
    have := u8_and_nat (b / 2 ^ k) 1 h2 (by decide)
    rw [Nat.and_one_is_mod] at this
    exact this
  rw [h1, h3]
  unfold Gf.bitOf
  rcases Nat.mod_two_eq_zero_or_one (b / 2 ^ k) with h | h <;> rw [h] <;> rfl
theorem bit_test64 (b k : Nat) (hb : b < 256) : (bits BinOp.and IntKind.i64 ((b : Int) / 2 ^ k) 1 == 1) = decide (Gf.bitOf b k = 1) := by
  have h1 : ((b : Int) / 2 ^ k) = ((b / 2 ^ k : Nat) : Int) := by simp
  have h2 : b / 2 ^ k < 256 := Nat.lt_of_le_of_lt (Nat.div_le_self _ _) hb
  have h3 : bits BinOp.and IntKind.i64 ((b / 2 ^ k : Nat) : Int) 1 = ((b / 2 ^ k % 2 : Nat) : Int) := by
    have := bits_mask IntKind.i64 8 (by decide) (fun n h0 h1 => by rw [IntKind.wrap_i64]; omega) 1 (by decide) ((b / 2 ^ k : Nat) : Int) (Int.natCast_nonneg _) (by exact_mod_cast h2)
    rw [show ((2 : Int) ^ 1 - 1) = 1 from rfl] at this
    rw [this]
    rfl
  rw [h1, h3]
  unfold Gf.bitOf
  rcases Nat.mod_two_eq_zero_or_one (b / 2 ^ k) with h | h <;> rw [h] <;> rfl
/-- n within the first round of 255. -/
def red (n : Int) : Nat := (n % 255).toNat
theorem red_cast (n : Int) : ((red n : Nat) : Int) = n % 255 := by unfold red; omega
theorem red_lt (n : Int) : red n < 255 := by unfold red; omega
theorem tmod_neg (n : Int) : n.tmod 255 = -((-n).tmod 255) := by rw [Int.neg_tmod, Int.neg_neg]
theorem i64_xor_nat (a b : Nat) (ha : a < 2 ^ 62) (hb : b < 2 ^ 62) : bits .xor .i64 (a : Int) (b : Int) = ((a ^^^ b : Nat) : Int) := by
  have hx : a ^^^ b < 2 ^ 62 := Nat.xor_lt_two_pow ha hb
  show IntKind.i64.wrap ((BitVec.ofInt 64 (a : Int) ^^^ BitVec.ofInt 64 (b : Int)).toNat : Int) = _
  rw [BitVec.toNat_xor, BitVec.ofInt_natCast, BitVec.ofInt_natCast, BitVec.toNat_ofNat, BitVec.toNat_ofNat, Nat.mod_eq_of_lt (by omega), Nat.mod_eq_of_lt (by omega), IntKind.wrap_i64]
  omega
theorem wrap64_small (n : Nat) (h : n < 2 ^ 62) : wrap64 (n : Int) = (n : Int) := by
  unfold wrap64; omega
theorem tmod_test (b k : Nat) : (((b : Int) / 2 ^ k).tmod 2 == 1) = decide (Gf.bitOf b k = 1) := by
  have h1 : ((b : Int) / 2 ^ k) = ((b / 2 ^ k : Nat) : Int) := by simp
  rw [h1, Int.tmod_eq_emod_of_nonneg (Int.natCast_nonneg _)]
  unfold Gf.bitOf
  have h3 : (((b / 2 ^ k : Nat) : Int) % 2) = ((b / 2 ^ k % 2 : Nat) : Int) := by simp
  rw [h3]
  rcases Nat.mod_two_eq_zero_or_one (b / 2 ^ k) with h | h <;> rw [h] <;> rfl
end Go.Proofs.YtcoecfpkihakoaaDoor
/- Bytes as a text. -/
namespace Go.Proofs.YtcoecfpkihakoaaDoor
open Go.RowKit
/-- Bytes as a text. -/
def strOf (l : List Nat) : ByteArray := strOfNums (l.map Int.ofNat)
end Go.Proofs.YtcoecfpkihakoaaDoor
/- A text that is not a literal. -/
namespace Go.Proofs.YtcoecfpkihakoaaDoor
open Go.RowKit
theorem lit_ne {a : ByteArray} {l : List UInt8} (h : a ≠ ⟨l.toArray⟩) : ¬ a.toList = l := fun e => h (by
  rw [ByteArray.toList_eq] at e
  exact ByteArray.ext (by rw [← e]))
theorem lit_beq {a : ByteArray} {l : List UInt8} (h : a ≠ ⟨l.toArray⟩) : (a.toList == l) = false := by simpa using lit_ne h
end Go.Proofs.YtcoecfpkihakoaaDoor
/- strings.Clone. -/
namespace Go.Proofs.YtcoecfpkihakoaaDoor
open Go.RowKit
set_option maxRecDepth 10000 in
theorem sclone_any (t : ByteArray) (w : World) (ht : t.size ≤ 140737488351232) : Calls Tryd.prog 13 #[.string t] w fun e w' => e = .returned (.string t) ∧ Below w.heap.size w w' := by
  have HC : Hid (∀ W, Calls Tryd.prog 22 #[.string t] W fun e w' => e = .returned (.string t) ∧ Below W.heap.size W w') := fun W => Tryd.stringslite_Clone t W (by omega)
  go_enter Tryd.func13, Tryd.ntmps13
  go_wp2_with fail
  refine (HC.out _).mono ?_
  rintro e w1 ⟨rfl, hb1⟩
  have HB1 : Hid (Below w.heap.size w w1) := hb1
  clear hb1
  go_wp2
  go_ret
  exact ⟨rfl, HB1.out⟩
end Go.Proofs.YtcoecfpkihakoaaDoor
/- Texts as lists of bytes. -/
namespace Go.Proofs.YtcoecfpkihakoaaDoor
open Go.RowKit
/-- A text of bytes. -/
def ofL (l : List UInt8) : ByteArray := ⟨l.toArray⟩
theorem ofL_size (l : List UInt8) : (ofL l).size = l.length := by
  show l.toArray.size = l.length
  simp
theorem ofL_data (l : List UInt8) : (ofL l).data.toList = l := by simp [ofL]
theorem ofL_self (s : ByteArray) : ofL s.data.toList = s := by
  unfold ofL
  rw [Array.toArray_toList]
theorem extract_ofL (l : List UInt8) (a b : Nat) : (ofL l).extract a b = ofL ((l.take b).drop a) := by
  refine ByteArray.ext (Array.toList_inj.1 ?_)
  rw [ByteArray.data_extract, Array.toList_extract, ofL_data, ofL_data, List.extract_eq_take_drop]
  rw [List.drop_take]
theorem ofL_left (a b : List UInt8) : (ofL (a ++ b)).extract 0 a.length = ofL a := by rw [extract_ofL]; simp
theorem ofL_right (a b : List UInt8) : (ofL (a ++ b)).extract a.length (ofL (a ++ b)).size = ofL b := by
  rw [extract_ofL, ofL_size, List.take_of_length_le (Nat.le_refl _), List.drop_left]
theorem ofL_append (a b : List UInt8) : ofL a ++ ofL b = ofL (a ++ b) := by
  apply ByteArray.ext
  simp [ofL]
theorem ofL_str (l : List Nat) : strOf l = ofL (l.map UInt8.ofNat) := by
  unfold strOf strOfNums ofL
  rw [List.map_map]
  rfl
end Go.Proofs.YtcoecfpkihakoaaDoor
/- Texts and their bytes. -/
namespace Go.Proofs.YtcoecfpkihakoaaDoor
open Go.RowKit
/-- A text's bytes. -/
def bytesOf (s : ByteArray) : List Nat := s.data.toList.map UInt8.toNat
theorem bytesOf_lt (s : ByteArray) : Gf.Bytes (bytesOf s) := fun i => by
  by_cases hi : i < (bytesOf s).length
  · rw [Gf.nth_getElem _ i hi]
    simp only [bytesOf, List.getElem_map]
    exact UInt8.toNat_lt _
  · show (bytesOf s).getD i 0 < 256
    rw [List.getD_eq_getElem?_getD, List.getElem?_eq_none (by omega)]
    decide
theorem bytesOf_nth (s : ByteArray) (i : Nat) (h : i < s.size) : Gf.nth (bytesOf s) i = (s[i]'h).toNat := by
  rw [Gf.nth_getElem _ i (by simpa [bytesOf] using h)]
  simp only [bytesOf, List.getElem_map]
  rfl
theorem bytesOf_length (s : ByteArray) : (bytesOf s).length = s.size := by simp [bytesOf]
theorem mem_bytes {l : List Nat} (h : Gf.Bytes l) {x : Nat} (hx : x ∈ l) : x < 256 := by
  obtain ⟨i, hi, rfl⟩ := List.getElem_of_mem hx
  have := h i
  rwa [Gf.nth_getElem l i hi] at this
theorem bytesOf_strOf {l : List Nat} (h : Gf.Bytes l) : bytesOf (strOf l) = l := by
  unfold bytesOf strOf
  rw [strOfNums_data, List.map_map, List.map_map]
  conv => rhs; rw [← List.map_id l]
  refine List.map_congr_left fun x hx => ?_
  have := mem_bytes h hx
  simp only [Function.comp]
  show (UInt8.ofNat x).toNat = x
  simp only [UInt8.toNat_ofNat']
  omega
theorem strOf_bytesOf (s : ByteArray) : strOf (bytesOf s) = s := by
  unfold bytesOf strOf strOfNums
  rw [List.map_map, List.map_map]
  have : (List.map (((fun n : Int => UInt8.ofNat n.toNat) ∘ Int.ofNat) ∘ UInt8.toNat) s.data.toList) = s.data.toList := by
    conv => rhs; rw [← List.map_id s.data.toList]
    refine List.map_congr_left fun x _ => ?_
    show UInt8.ofNat x.toNat = x
    exact UInt8.ofNat_toNat
  rw [this]
theorem strOf_size (l : List Nat) : (strOf l).size = l.length := by
  unfold strOf
  rw [strOfNums_size, List.length_map]
theorem run_idx (s : ByteArray) (i : Nat) (h : i < s.size) (W : World) : Sem.run Tryd.prog (Instr.index 9 (.string s) (.int .i64 (i : Int))) W = .ok (.int .u8 ((Gf.nth (bytesOf s) i : Nat) : Int)) W := by
  rw [run_index_string W 9 s .i64 _ Tryd.underlying9, dif_pos ⟨by omega, by omega⟩, bytesOf_nth s i h]
  congr 3
theorem nth_ext {l m : List Nat} (hl : l.length = m.length) (h : ∀ i, i < l.length → Gf.nth l i = Gf.nth m i) : l = m := by
  refine List.ext_getElem hl fun i h1 h2 => ?_
  rw [← Gf.nth_getElem l i h1, ← Gf.nth_getElem m i h2]
  exact h i h1
theorem nth_past {l : List Nat} {i : Nat} (h : l.length ≤ i) : Gf.nth l i = 0 := by
  show l.getD i 0 = 0
  rw [List.getD_eq_getElem?_getD, List.getElem?_eq_none h]
  rfl
end Go.Proofs.YtcoecfpkihakoaaDoor
/- Texts that lie in memory, one behind the other. -/
namespace Go.Proofs.YtcoecfpkihakoaaDoor
open Go.RowKit
def txt (l : List ByteArray) (i : Nat) : ByteArray := l.getD i ⟨#[]⟩
theorem txt_getElem (l : List ByteArray) (i : Nat) (h : i < l.length) : txt l i = l[i] := by
  unfold txt
  rw [List.getD_eq_getElem?_getD, List.getElem?_eq_getElem h]
  rfl
theorem txt_mem {l : List ByteArray} {i : Nat} (h : i < l.length) : txt l i ∈ l := by
  rw [txt_getElem l i h]
  exact List.getElem_mem h
theorem txt_of_mem {l : List ByteArray} {x : ByteArray} (h : x ∈ l) : ∃ i, i < l.length ∧ txt l i = x := by
  obtain ⟨i, hi, e⟩ := List.getElem_of_mem h
  exact ⟨i, hi, by rw [txt_getElem l i hi, e]⟩
theorem txt_take {l : List ByteArray} {i j : Nat} (h : j < i) : txt (l.take i) j = txt l j := by
  unfold txt
  rw [List.getD_eq_getElem?_getD, List.getD_eq_getElem?_getD, List.getElem?_take_of_lt h]
theorem txt_ext {l m : List ByteArray} (hl : l.length = m.length) (h : ∀ i, i < l.length → txt l i = txt m i) : l = m := by
  refine List.ext_getElem hl fun i h1 h2 => ?_
  rw [← txt_getElem l i h1, ← txt_getElem m i h2]
  exact h i h1
/-- In the world w the texts l lie from p on. -/
def Strs (w : World) (p : Option Addr) (l : List ByteArray) : Prop :=
  l = [] ∨ ∃ b o, p = some ⟨b, o, none⟩ ∧ b < w.heap.size ∧ ∀ i, i < l.length → w.cell? ⟨b, o + i, none⟩ = some (.string (txt l i))
theorem Strs.nil (w : World) (p : Option Addr) : Strs w p [] := Or.inl rfl
theorem Strs.drewN {w : World} {p : Option Addr} {l : List ByteArray} (h : Strs w p l) (n : Nat) : Strs (w.drewN n) p l := h
theorem Strs.below {w w' : World} {p : Option Addr} {l : List ByteArray} (h : Strs w p l) (hb : Below w.heap.size w w') : Strs w' p l := by
  rcases h with h | ⟨b, o, hp, hlt, hc⟩
  · exact Or.inl h
  · exact Or.inr ⟨b, o, hp, Nat.lt_of_lt_of_le hlt hb.size, fun i hi => (hb.cell (p := ⟨b, o + i, none⟩) hlt).trans (hc i hi)⟩
/-- Below B alone nothing turned. -/
theorem Strs.belowAt {w w' : World} {p : Option Addr} {l : List ByteArray} {B : Nat} (h : Strs w p l) (hb : Below B w w') (hB : ∀ b o, p = some ⟨b, o, none⟩ → b < B) : Strs w' p l := by
  rcases h with h | ⟨b, o, hp, hlt, hc⟩
  · exact Or.inl h
  · exact Or.inr ⟨b, o, hp, Nat.lt_of_lt_of_le hlt hb.size, fun i hi => (hb.cell (p := ⟨b, o + i, none⟩) (hB b o hp)).trans (hc i hi)⟩
theorem Strs.take {w : World} {p : Option Addr} {l : List ByteArray} (h : Strs w p l) (i : Nat) : Strs w p (l.take i) := by
  rcases h with h | ⟨b, o, hp, hlt, hc⟩
  · exact Or.inl (by rw [h, List.take_nil])
  · refine Or.inr ⟨b, o, hp, hlt, fun j hj => ?_⟩
    rw [List.length_take] at hj
    rw [hc j (by omega), txt_take (by omega)]
theorem toList_ne {a b : ByteArray} (h : a ≠ b) : ¬ a.toList = b.toList := fun e => h (by
  rw [ByteArray.toList_eq, ByteArray.toList_eq] at e
  exact ByteArray.ext (Array.toList_inj.1 e))
theorem toList_beq {a b : ByteArray} (h : a ≠ b) : (a.toList == b.toList) = false := by simpa using toList_ne h
theorem bytes_beq {a b : ByteArray} (h : a ≠ b) : (a == b) = false := by rw [beq_toListBytes]; exact toList_beq h
end Go.Proofs.YtcoecfpkihakoaaDoor
/- What a node's model holds, in memory. -/
namespace Go.Proofs.YtcoecfpkihakoaaDoor
open Go.RowKit
/-- A version: its tag's number and maker, the object's size, the shard's number and text. -/
structure Ver where
  n : Int
  who : Int
  size : Int
  at_ : Int
  text : ByteArray
deriving DecidableEq
def verC (v : Ver) : List Value := [.int .i64 v.n, .int .i64 v.who, .int .i64 v.size, .int .i64 v.at_, .string v.text]
def verE : Enc Ver := ⟨5, by decide, verC, fun _ => rfl, fun x u hu => by simp [verC] at hu; rcases hu with rfl | rfl | rfl | rfl | rfl <;> rfl⟩
/-- A version with its key. -/
abbrev Kep := ByteArray × Ver
def kepE : Enc Kep := ⟨6, by decide, fun x => .string x.1 :: verC x.2, fun _ => rfl, fun x u hu => by simp [verC] at hu; rcases hu with rfl | rfl | rfl | rfl | rfl | rfl <;> rfl⟩
/-- In the world w the model's hold at block h has L, and is sealed or not. -/
structure MHold (w : World) (h : Nat) (L : List Kep) (s : Bool) : Prop where
  row : ∃ p c, w.cell? ⟨h, 0, none⟩ = some (.slice p L.length c) ∧ Rec kepE w p L ∧ L.length ≤ c ∧ (p = none → L = [] ∧ c = 0) ∧ ∀ b o, p = some ⟨b, o, none⟩ → b ≠ h
  sealed_ : w.cell? ⟨h, 1, none⟩ = some (.bool s)
  free0 : w.frozen? ⟨h, 0, none⟩ = false
  free1 : w.frozen? ⟨h, 1, none⟩ = false
theorem lt_of_cellH {w : World} {b o : Nat} {v : Value} (h : w.cell? ⟨b, o, none⟩ = some v) : b < w.heap.size := by
  rcases Nat.lt_or_ge b w.heap.size with h' | h'
  · exact h'
  · simp [World.cell?, Array.getElem?_eq_none h'] at h
theorem MHold.below {w w' : World} {h : Nat} {L : List Kep} {s : Bool} (hm : MHold w h L s) (hb : Below w.heap.size w w') : MHold w' h L s := by
  obtain ⟨p, c, h1, h2, h3, h4, h5⟩ := hm.row
  have hlt := lt_of_cellH h1
  exact ⟨⟨p, c, (hb.cell (p := ⟨h, 0, none⟩) hlt).trans h1, h2.below hb, h3, h4, h5⟩, (hb.cell (p := ⟨h, 1, none⟩) hlt).trans hm.sealed_, (hb.frozen (p := ⟨h, 0, none⟩) hlt).trans hm.free0, (hb.frozen (p := ⟨h, 1, none⟩) hlt).trans hm.free1⟩
/-- The versions of a key, in their order. -/
def getL (L : List Kep) (key : ByteArray) : List Ver := (L.filter fun x => decide (x.1 = key)).map Prod.snd
def kepAt (L : List Kep) (i : Nat) : Kep := L.getD i (⟨#[]⟩, ⟨0, 0, 0, 0, ⟨#[]⟩⟩)
theorem kepAt_get {L : List Kep} {i : Nat} (hi : i < L.length) : L[i]? = some (kepAt L i) := by
  unfold kepAt
  rw [List.getD_eq_getElem?_getD, List.getElem?_eq_getElem hi]
  rfl
theorem take_succ_kep {L : List Kep} {i : Nat} (hi : i < L.length) : L.take (i + 1) = L.take i ++ [kepAt L i] := by
  rw [List.take_add_one, kepAt_get hi]
  rfl
theorem getL_succ_yes {L : List Kep} {i : Nat} {key : ByteArray} (hi : i < L.length) (h : (kepAt L i).1 = key) : getL (L.take (i + 1)) key = getL (L.take i) key ++ [(kepAt L i).2] := by
  unfold getL
  rw [take_succ_kep hi, List.filter_append, List.filter_cons_of_pos (by simpa using h), List.filter_nil, List.map_append]
  rfl
theorem getL_succ_no {L : List Kep} {i : Nat} {key : ByteArray} (hi : i < L.length) (h : (kepAt L i).1 ≠ key) : getL (L.take (i + 1)) key = getL (L.take i) key := by
  unfold getL
  rw [take_succ_kep hi, List.filter_append, List.filter_cons_of_neg (by simpa using h), List.filter_nil, List.append_nil]
theorem getL_le (L : List Kep) (key : ByteArray) : (getL L key).length ≤ L.length := by
  unfold getL
  rw [List.length_map]
  exact List.length_filter_le _ _
/-- The six cells of a kept version. -/
theorem kep_cells {w : World} {p : Option Addr} {L : List Kep} (h : Rec kepE w p L) {i : Nat} (hi : i < L.length) : ∃ b o, p = some ⟨b, o, none⟩ ∧ b < w.heap.size ∧ w.cell? ⟨b, o + i * 6, none⟩ = some (.string (kepAt L i).1) ∧ w.cell? ⟨b, o + i * 6 + 1, none⟩ = some (.int .i64 (kepAt L i).2.n) ∧ w.cell? ⟨b, o + i * 6 + 2, none⟩ = some (.int .i64 (kepAt L i).2.who) ∧ w.cell? ⟨b, o + i * 6 + 3, none⟩ = some (.int .i64 (kepAt L i).2.size) ∧ w.cell? ⟨b, o + i * 6 + 4, none⟩ = some (.int .i64 (kepAt L i).2.at_) ∧ w.cell? ⟨b, o + i * 6 + 5, none⟩ = some (.string (kepAt L i).2.text) := by
  rcases h with h | ⟨b, o, hp, hlt, hc⟩
  · rw [h] at hi; exact absurd hi (Nat.not_lt_zero _)
  · have hx := kepAt_get hi
    exact ⟨b, o, hp, hlt, hc i _ hx 0 _ rfl, hc i _ hx 1 _ rfl, hc i _ hx 2 _ rfl, hc i _ hx 3 _ rfl, hc i _ hx 4 _ rfl, hc i _ hx 5 _ rfl⟩
end Go.Proofs.YtcoecfpkihakoaaDoor
/- Messages, and a message as a value. -/
namespace Go.Proofs.YtcoecfpkihakoaaDoor
open Go.RowKit
/-- A message. -/
structure Msg where
  from_ : ByteArray
  to_ : ByteArray
  kind : ByteArray
  key : ByteArray
  op : Int
  config : Int
  shut : Bool
  L : List Ver
/-- A message as a value. -/
def msgA (m : Msg) (lv : Value) : Value := .agg #[.string m.from_, .string m.to_, .string m.kind, .string m.key, .int .i64 m.op, .int .i64 m.config, .bool m.shut, lv]
end Go.Proofs.YtcoecfpkihakoaaDoor
/- Names, nodes, their faults. -/
namespace Go.Proofs.YtcoecfpkihakoaaDoor
open Go.RowKit
/-- The first place where it stands. -/
def idxN (l : List ByteArray) (s : ByteArray) : Nat := l.findIdx fun x => decide (x = s)
theorem idxN_eq {l : List ByteArray} {s : ByteArray} {i : Nat} (hi : i < l.length) (h : txt l i = s) (hall : ∀ j, j < i → txt l j ≠ s) : idxN l s = i := by
  unfold idxN
  rw [List.findIdx_eq hi]
  refine ⟨decide_eq_true (by rw [← txt_getElem l i hi]; exact h), fun j hj => decide_eq_false ?_⟩
  rw [← txt_getElem l j (by omega)]
  exact hall j hj
/-- A sign that a name may have. -/
def letterB (c : Nat) : Bool := decide (97 ≤ c ∧ c ≤ 122) || decide (48 ≤ c ∧ c ≤ 57) || decide (c = 45)
/-- A name. -/
def isN (s : ByteArray) : Bool := decide (1 ≤ s.size ∧ s.size ≤ 16) && (bytesOf s).all letterB
theorem isN_size {s : ByteArray} (h : isN s = true) : 1 ≤ s.size ∧ s.size ≤ 16 := by
  unfold isN at h
  rw [Bool.and_eq_true] at h
  exact of_decide_eq_true h.1
theorem isN_all {s : ByteArray} (h1 : 1 ≤ s.size) (h2 : s.size ≤ 16) (h : ∀ j, j < s.size → letterB (Gf.nth (bytesOf s) j) = true) : isN s = true := by
  unfold isN
  rw [decide_eq_true ⟨h1, h2⟩, Bool.true_and, List.all_eq_true]
  intro x hx
  obtain ⟨j, hj, rfl⟩ := List.getElem_of_mem hx
  rw [← Gf.nth_getElem _ j hj]
  exact h j (by rw [bytesOf_length] at hj; exact hj)
theorem isN_one {s : ByteArray} {j : Nat} (hj : j < s.size) (h : letterB (Gf.nth (bytesOf s) j) = false) : isN s = false := by
  unfold isN
  rw [Bool.and_eq_false_iff]
  refine Or.inr (List.all_eq_false.2 ⟨Gf.nth (bytesOf s) j, ?_, by rw [h]; decide⟩)
  have hj' : j < (bytesOf s).length := by rw [bytesOf_length]; exact hj
  rw [Gf.nth_getElem _ j hj']
  exact List.getElem_mem hj'
theorem isN_len {s : ByteArray} (h : ¬ (1 ≤ s.size ∧ s.size ≤ 16)) : isN s = false := by
  unfold isN
  rw [decide_eq_false h, Bool.false_and]
def inL (l : List ByteArray) (x : ByteArray) : Bool := l.any fun y => decide (y = x)
theorem inL_iff {l : List ByteArray} {x : ByteArray} : inL l x = true ↔ x ∈ l := by
  unfold inL
  rw [List.any_eq_true]
  exact ⟨fun ⟨y, hy, e⟩ => by rw [← of_decide_eq_true e]; exact hy, fun h => ⟨x, h, decide_eq_true rfl⟩⟩
/-- What is wrong with node i: it is no name (4), it was ahead (6), nothing (0). -/
def faultAt (l : List ByteArray) (i : Nat) : Nat := if isN (txt l i) then (if inL (l.take i) (txt l i) then 6 else 0) else 4
theorem faultAt_name {l : List ByteArray} {i : Nat} (h : isN (txt l i) = false) : faultAt l i = 4 := by
  unfold faultAt
  rw [h, if_neg (by decide)]
theorem faultAt_twice {l : List ByteArray} {i : Nat} (h : isN (txt l i) = true) (h2 : txt l i ∈ l.take i) : faultAt l i = 6 := by
  unfold faultAt
  rw [if_pos h, if_pos (inL_iff.2 h2)]
theorem faultAt_fine {l : List ByteArray} {i : Nat} (h : isN (txt l i) = true) (h2 : txt l i ∉ l.take i) : faultAt l i = 0 := by
  unfold faultAt
  rw [if_pos h, if_neg (fun h3 => h2 (inL_iff.1 h3))]
/-- The first fault of the m nodes from i on: its number, its place. -/
def scanF (l : List ByteArray) : Nat → Nat → Int × Int
  | _, 0 => (0, -1)
  | i, m + 1 => if faultAt l i = 0 then scanF l (i + 1) m else ((faultAt l i : Nat), (i : Nat))
/-- The fault of nodes. -/
def nodesF (l : List ByteArray) : Int × Int := if l.length < 1 ∨ 16 < l.length then (2, -1) else scanF l 0 l.length
theorem nodesF_bound {l : List ByteArray} (h : l.length < 1 ∨ 16 < l.length) : nodesF l = (2, -1) := if_pos h
theorem nodesF_scan {l : List ByteArray} (h1 : ¬ l.length < 1) (h2 : ¬ 16 < l.length) : nodesF l = scanF l 0 l.length := if_neg (by omega)
theorem scanF_fine {l : List ByteArray} : ∀ (m i : Nat), scanF l i m = (0, -1) → ∀ j, i ≤ j → j < i + m → faultAt l j = 0
  | 0, i, _, j, h1, h2 => by omega
  | m + 1, i, h, j, h1, h2 => by
    have h' : (if faultAt l i = 0 then scanF l (i + 1) m else (((faultAt l i : Nat) : Int), (i : Int))) = (0, -1) := h
    by_cases e : faultAt l i = 0
    · rw [if_pos e] at h'
      by_cases e2 : j = i
      · rw [e2]; exact e
      · exact scanF_fine m (i + 1) h' j (by omega) (by omega)
    · rw [if_neg e] at h'
      have h3 := congrArg Prod.fst h'
      have h4 : ((faultAt l i : Nat) : Int) = 0 := h3
      omega
/-- Where it is 0 it is nothing. -/
theorem scanF_zero {l : List ByteArray} : ∀ (m i : Nat), (scanF l i m).1 ≤ 0 → scanF l i m = (0, -1)
  | 0, _, _ => rfl
  | m + 1, i, h => by
    show (if faultAt l i = 0 then scanF l (i + 1) m else (((faultAt l i : Nat) : Int), (i : Int))) = (0, -1)
    have h' : (if faultAt l i = 0 then scanF l (i + 1) m else (((faultAt l i : Nat) : Int), (i : Int))).1 ≤ 0 := h
    by_cases e : faultAt l i = 0
    · rw [if_pos e] at h' ⊢
      exact scanF_zero m (i + 1) h'
    · rw [if_neg e] at h'
      have h4 : ((faultAt l i : Nat) : Int) ≤ 0 := h'
      omega
theorem nodesF_zero {l : List ByteArray} (h : (nodesF l).1 ≤ 0) : nodesF l = (0, -1) ∧ 1 ≤ l.length ∧ l.length ≤ 16 := by
  by_cases hb : l.length < 1 ∨ 16 < l.length
  · rw [nodesF_bound hb] at h
    exact absurd h (by decide)
  · have h1 : nodesF l = scanF l 0 l.length := if_neg hb
    rw [h1] at h ⊢
    exact ⟨scanF_zero _ _ h, by omega, by omega⟩
/-- Nodes without a fault: names, each once. -/
theorem nodesF_fine {l : List ByteArray} (h : (nodesF l).1 ≤ 0) : (∀ x ∈ l, isN x = true) ∧ l.Nodup := by
  obtain ⟨h0, h1, h2⟩ := nodesF_zero h
  rw [nodesF_scan (by omega) (by omega)] at h0
  have hf := scanF_fine l.length 0 h0
  have key : ∀ j, j < l.length → isN (txt l j) = true ∧ txt l j ∉ l.take j := fun j hj => by
    have := hf j (Nat.zero_le _) (by omega)
    unfold faultAt at this
    by_cases e : isN (txt l j) = true
    · rw [if_pos e] at this
      refine ⟨e, fun h3 => ?_⟩
      rw [if_pos (inL_iff.2 h3)] at this
      omega
    · rw [if_neg e] at this
      omega
  refine ⟨fun x hx => ?_, ?_⟩
  · obtain ⟨j, hj, rfl⟩ := txt_of_mem hx
    exact (key j hj).1
  · rw [List.nodup_iff_pairwise_ne, List.pairwise_iff_getElem]
    intro i j hi hj hij e
    refine (key j hj).2 ?_
    rw [txt_getElem l j hj, ← e, List.mem_take_iff_getElem]
    exact ⟨i, by omega, rfl⟩
/-- The fault of nodes, and how many. -/
def preferF (l : List ByteArray) (n : Int) : Int × Int := if 0 < (nodesF l).1 then nodesF l else if (l.length : Int) < n then (8, -1) else if n < 0 then (2, -1) else nodesF l
theorem preferF_fine {l : List ByteArray} {n : Int} (h : ¬ 0 < (preferF l n).1) : (nodesF l).1 ≤ 0 ∧ 0 ≤ n ∧ n ≤ l.length ∧ preferF l n = (0, -1) := by
  unfold preferF at h ⊢
  by_cases h1 : 0 < (nodesF l).1
  · rw [if_pos h1] at h; exact absurd h1 h
  rw [if_neg h1] at h ⊢
  by_cases h2 : (l.length : Int) < n
  · rw [if_pos h2] at h; exact absurd (by decide) h
  rw [if_neg h2] at h ⊢
  by_cases h3 : n < 0
  · rw [if_pos h3] at h; exact absurd (by decide) h
  rw [if_neg h3] at h ⊢
  exact ⟨by omega, by omega, by omega, (nodesF_zero (by omega)).1⟩
/-- Too long to be asked. -/
def longL (l : List ByteArray) : Bool := decide (40 < l.length) || l.any fun x => decide (100 < x.size)
theorem longL_fine {l : List ByteArray} (h : longL l = false) : l.length ≤ 40 ∧ ∀ x ∈ l, x.size ≤ 100 := by
  unfold longL at h
  rw [Bool.or_eq_false_iff] at h
  refine ⟨by have := of_decide_eq_false h.1; omega, fun x hx => ?_⟩
  have := List.any_eq_false.1 h.2 x hx
  have h2 : ¬ 100 < x.size := fun h3 => this (decide_eq_true h3)
  omega
theorem scanF_of {l : List ByteArray} : ∀ (m i : Nat), (∀ j, i ≤ j → j < i + m → faultAt l j = 0) → scanF l i m = (0, -1)
  | 0, _, _ => rfl
  | m + 1, i, h => by
    show (if faultAt l i = 0 then scanF l (i + 1) m else (((faultAt l i : Nat) : Int), (i : Int))) = (0, -1)
    rw [if_pos (h i (Nat.le_refl _) (by omega))]
    exact scanF_of m (i + 1) (fun j h1 h2 => h j (by omega) (by omega))
/-- Names, each once, from 1 to 16: no fault. -/
theorem nodesF_of {l : List ByteArray} (h1 : 1 ≤ l.length) (h2 : l.length ≤ 16) (h3 : ∀ x ∈ l, isN x = true) (h4 : l.Nodup) : nodesF l = (0, -1) := by
  rw [nodesF_scan (by omega) (by omega)]
  refine scanF_of _ _ fun j _ hj => faultAt_fine (h3 _ (txt_mem (by omega))) fun hm => ?_
  obtain ⟨i, hi, e⟩ := List.mem_take_iff_getElem.1 hm
  have hjl : j < l.length := by omega
  rw [txt_getElem l j hjl] at e
  have := (List.nodup_iff_pairwise_ne.1 h4)
  rw [List.pairwise_iff_getElem] at this
  exact this i j (by omega) hjl (by omega) e
theorem preferF_of {l : List ByteArray} {n : Int} (h : nodesF l = (0, -1)) (h1 : 0 ≤ n) (h2 : n ≤ l.length) : preferF l n = (0, -1) := by
  unfold preferF
  rw [h, if_neg (by decide), if_neg (by omega), if_neg (by omega)]
end Go.Proofs.YtcoecfpkihakoaaDoor
/- Package ring: is it a name? -/
namespace Go.Proofs.YtcoecfpkihakoaaDoor
open Go.RowKit
set_option maxRecDepth 10000 in
set_option maxHeartbeats 1000000 in
theorem sign_any (r : Nat) (W : World) : Calls Tryd.prog 21 #[.int .i32 (r : Int)] W fun e w' => e = .returned (.bool (!letterB r)) ∧ w' = W := by
  have key : ∀ b, letterB r = b → Hid ((!letterB r) = (!b)) := fun b h => by show _ = _; rw [h]
  rcases (show (97 ≤ r ∧ r ≤ 122) ∨ (48 ≤ r ∧ r ≤ 57) ∨ r = 45 ∨ 122 < r ∨ (57 < r ∧ r < 97) ∨ (r < 48 ∧ r ≠ 45) by omega) with hc | hc | hc | hc | hc | hc
  · have HL := key true (by simp [letterB, hc])
    obtain ⟨hc1, hc2⟩ := hc
    have d1 : decide ((r : Int) < 97) = false := decide_eq_false (by omega)
    have d2 : decide (122 < (r : Int)) = false := decide_eq_false (by omega)
    rw [HL.out]
    clear key
    go_enter Tryd.func21, Tryd.ntmps21
    go_wp2
    go_ret
    exact ⟨rfl, rfl⟩
  · have HL := key true (by simp [letterB, hc])
    obtain ⟨hc1, hc2⟩ := hc
    have d1 : decide ((r : Int) < 97) = true := decide_eq_true (by omega)
    have d3 : decide ((r : Int) < 48) = false := decide_eq_false (by omega)
    have d4 : decide (57 < (r : Int)) = false := decide_eq_false (by omega)
    rw [HL.out]
    clear key
    go_enter Tryd.func21, Tryd.ntmps21
    go_wp2
    go_ret
    exact ⟨rfl, rfl⟩
  · have HL := key true (by simp [letterB, hc])
    subst hc
    rw [HL.out]
    clear key
    go_enter Tryd.func21, Tryd.ntmps21
    go_wp2
    go_ret
    exact ⟨rfl, rfl⟩
  · have HL := key false (by unfold letterB; rw [decide_eq_false (by omega), decide_eq_false (by omega), decide_eq_false (by omega)]; rfl)
    have d1 : decide ((r : Int) < 97) = false := decide_eq_false (by omega)
    have d2 : decide (122 < (r : Int)) = true := decide_eq_true (by omega)
    have d3 : decide ((r : Int) < 48) = false := decide_eq_false (by omega)
    have d4 : decide (57 < (r : Int)) = true := decide_eq_true (by omega)
    have d5 : ((r : Int) != 45) = true := by rw [bne_iff_ne]; omega
    have d6 : ((r : Int) == 45) = false := by rw [beq_eq_false_iff_ne]; omega
    rw [HL.out]
    clear key
    go_enter Tryd.func21, Tryd.ntmps21
    go_wp2
    go_ret
    exact ⟨rfl, rfl⟩
  · have HL := key false (by unfold letterB; rw [decide_eq_false (by omega), decide_eq_false (by omega), decide_eq_false (by omega)]; rfl)
    obtain ⟨hc1, hc2⟩ := hc
    have d1 : decide ((r : Int) < 97) = true := decide_eq_true (by omega)
    have d3 : decide ((r : Int) < 48) = false := decide_eq_false (by omega)
    have d4 : decide (57 < (r : Int)) = true := decide_eq_true (by omega)
    have d5 : ((r : Int) != 45) = true := by rw [bne_iff_ne]; omega
    have d6 : ((r : Int) == 45) = false := by rw [beq_eq_false_iff_ne]; omega
    rw [HL.out]
    clear key
    go_enter Tryd.func21, Tryd.ntmps21
    go_wp2
    go_ret
    exact ⟨rfl, rfl⟩
  · have HL := key false (by unfold letterB; rw [decide_eq_false (by omega), decide_eq_false (by omega), decide_eq_false (by omega)]; rfl)
    obtain ⟨hc1, hc2⟩ := hc
    have d1 : decide ((r : Int) < 97) = true := decide_eq_true (by omega)
    have d3 : decide ((r : Int) < 48) = true := decide_eq_true (by omega)
    have d5 : ((r : Int) != 45) = true := by rw [bne_iff_ne]; omega
    have d6 : ((r : Int) == 45) = false := by rw [beq_eq_false_iff_ne]; omega
    rw [HL.out]
    clear key
    go_enter Tryd.func21, Tryd.ntmps21
    go_wp2
    go_ret
    exact ⟨rfl, rfl⟩
/-- From place i on: a sign that no name has is found just where there is such a byte. -/
theorem idxFrom (s : ByteArray) : ∀ (f i : Nat), s.size ≤ i + f → (decide (0 ≤ Lib.idxFuncFrom (fun r => !letterB r) true s f i) = true ↔ ∃ j, i ≤ j ∧ j < s.size ∧ letterB (Gf.nth (bytesOf s) j) = false)
  | 0, i, h => by
    constructor
    · intro h1
      have h2 : decide ((0 : Int) ≤ -1) = true := h1
      cases h2
    · rintro ⟨j, h1, h2, _⟩
      omega
  | f + 1, i, h => by
    show decide (0 ≤ (if i < s.size then (if (!letterB (Utf8.decode s i).1) = true then (i : Int) else Lib.idxFuncFrom (fun r => !letterB r) true s f (i + (Utf8.decode s i).2)) else -1)) = true ↔ _
    by_cases hi : i < s.size
    · rw [if_pos hi]
      by_cases ha : (s[i]'hi).toNat < 128
      · rw [decode_ascii s i hi ha, ← bytesOf_nth s i hi]
        have ih := idxFrom s f (i + 1) (by omega)
        cases hl : letterB (Gf.nth (bytesOf s) i) with
        | false =>
          rw [if_pos (by rfl)]
          exact ⟨fun _ => ⟨i, Nat.le_refl _, hi, hl⟩, fun _ => decide_eq_true (by omega)⟩
        | true =>
          rw [if_neg (by simp), ih]
          constructor
          · rintro ⟨j, h1, h2, h3⟩
            exact ⟨j, by omega, h2, h3⟩
          · rintro ⟨j, h1, h2, h3⟩
            refine ⟨j, ?_, h2, h3⟩
            by_cases e : j = i
            · rw [e, hl] at h3; cases h3
            · omega
      · have h1 := (decode_high s i hi (by omega)).1
        have hl : letterB (Utf8.decode s i).1 = false := by
          unfold letterB
          rw [decide_eq_false (by omega), decide_eq_false (by omega), decide_eq_false (by omega)]
          rfl
        have hl2 : letterB (Gf.nth (bytesOf s) i) = false := by
          rw [bytesOf_nth s i hi]
          unfold letterB
          rw [decide_eq_false (by omega), decide_eq_false (by omega), decide_eq_false (by omega)]
          rfl
        rw [hl, if_pos (by rfl)]
        exact ⟨fun _ => ⟨i, Nat.le_refl _, hi, hl2⟩, fun _ => decide_eq_true (by omega)⟩
    · rw [if_neg hi]
      constructor
      · intro h1
        cases h1
      · rintro ⟨j, h1, h2, _⟩
        omega
theorem idxOf (s : ByteArray) : decide (0 ≤ Lib.idxFunc (fun r => !letterB r) true s) = !((bytesOf s).all letterB) := by
  have h := idxFrom s s.size 0 (by omega)
  cases ha : (bytesOf s).all letterB with
  | true =>
    rw [show (!true) = false from rfl, Bool.eq_false_iff]
    intro h1
    obtain ⟨j, _, hj, h3⟩ := h.1 h1
    have hj' : j < (bytesOf s).length := by rw [bytesOf_length]; exact hj
    rw [List.all_eq_true] at ha
    have := ha (Gf.nth (bytesOf s) j) (by rw [Gf.nth_getElem _ j hj']; exact List.getElem_mem hj')
    rw [h3] at this
    cases this
  | false =>
    obtain ⟨x, hx, hne⟩ := List.all_eq_false.1 ha
    obtain ⟨j, hj, rfl⟩ := List.getElem_of_mem hx
    refine h.2 ⟨j, Nat.zero_le _, by rw [bytesOf_length] at hj; exact hj, ?_⟩
    rw [Gf.nth_getElem _ j hj]
    exact Bool.eq_false_iff.2 hne
set_option maxRecDepth 10000 in
set_option maxHeartbeats 1000000 in
theorem pname_any (s : ByteArray) (w : World) : Calls Tryd.prog 12 #[.string s] w fun e w' => e = .returned (.bool (isN s)) ∧ Below w.heap.size w w' := by
  by_cases h1 : s.size < 1
  · have HE : Hid (isN s = false) := isN_len (by omega)
    have d1 : decide (1 ≤ (s.size : Int)) = false := decide_eq_false (by omega)
    rw [HE.out]
    go_enter Tryd.func12, Tryd.ntmps12
    go_wp2
    go_ret
    exact ⟨rfl, Below.refl _ _⟩
  have d1 : decide (1 ≤ (s.size : Int)) = true := decide_eq_true (by omega)
  by_cases h2 : 16 < s.size
  · have HE : Hid (isN s = false) := isN_len (by omega)
    have d2 : decide ((s.size : Int) ≤ 16) = false := decide_eq_false (by omega)
    rw [HE.out]
    go_enter Tryd.func12, Tryd.ntmps12
    go_wp2
    go_ret
    exact ⟨rfl, Below.refl _ _⟩
  have d2 : decide ((s.size : Int) ≤ 16) = true := decide_eq_true (by omega)
  have HC := Tryd.strings_ContainsFunc 21 #[] (enters_of Tryd.func21 (by kernel_rfl) rfl) (fun r => !letterB r) s w (fun W r _ => by
    unfold FnGives
    exact (sign_any r W).mono fun _ _ ⟨he, hw⟩ => ⟨he, 0, hw⟩)
  rw [idxOf] at HC
  have HE : Hid (isN s = (bytesOf s).all letterB) := by show _ = _; unfold isN; rw [decide_eq_true ⟨by omega, by omega⟩, Bool.true_and]
  rw [HE.out]
  generalize (bytesOf s).all letterB = r at *
  clear HE
  go_enter Tryd.func12, Tryd.ntmps12
  go_wp2_with fail
  refine HC.mono ?_
  rintro e w1 ⟨rfl, hb1⟩
  clear HC
  cases r with
  | true =>
    go_wp2
    go_ret
    exact ⟨rfl, hb1⟩
  | false =>
    go_wp2
    go_ret
    exact ⟨rfl, hb1⟩
end Go.Proofs.YtcoecfpkihakoaaDoor
/- What a node holds: versions by key and tag, as lists; what a model of it answers. -/
namespace Go.Proofs.YtcoecfpkihakoaaDoor
open Go.RowKit
def lessB (a b : Int × Int) : Bool := decide (a.1 < b.1) || (decide (a.1 = b.1) && decide (a.2 < b.2))
theorem verinfo : (Tryd.prog.info? 28).map (fun i => (i.zero, i.size, i.bytes)) = some (some (.agg #[.int .i64 0, .int .i64 0, .int .i64 0, .int .i64 0, .string ⟨#[]⟩]), 5, 48) := by kernel_rfl
def verAt (L : List Ver) (i : Nat) : Ver := L.getD i ⟨0, 0, 0, 0, ⟨#[]⟩⟩
theorem verAt_get {L : List Ver} {i : Nat} (hi : i < L.length) : L[i]? = some (verAt L i) := by
  unfold verAt
  rw [List.getD_eq_getElem?_getD, List.getElem?_eq_getElem hi]
  rfl
theorem ver_ext {l m : List Ver} (hl : l.length = m.length) (h : ∀ i, i < l.length → verAt l i = verAt m i) : l = m := by
  refine List.ext_getElem? fun i => ?_
  by_cases hi : i < l.length
  · rw [verAt_get hi, verAt_get (show i < m.length by omega), h i hi]
  · rw [List.getElem?_eq_none (by omega), List.getElem?_eq_none (by omega)]
theorem ver_cells {w : World} {p : Option Addr} {L : List Ver} (h : Rec verE w p L) {i : Nat} (hi : i < L.length) : ∃ b o, p = some ⟨b, o, none⟩ ∧ b < w.heap.size ∧ w.cell? ⟨b, o + i * 5, none⟩ = some (.int .i64 (verAt L i).n) ∧ w.cell? ⟨b, o + i * 5 + 1, none⟩ = some (.int .i64 (verAt L i).who) ∧ w.cell? ⟨b, o + i * 5 + 2, none⟩ = some (.int .i64 (verAt L i).size) ∧ w.cell? ⟨b, o + i * 5 + 3, none⟩ = some (.int .i64 (verAt L i).at_) ∧ w.cell? ⟨b, o + i * 5 + 4, none⟩ = some (.string (verAt L i).text) := by
  rcases h with h | ⟨b, o, hp, hlt, hc⟩
  · rw [h] at hi; exact absurd hi (Nat.not_lt_zero _)
  · have hx := verAt_get hi
    exact ⟨b, o, hp, hlt, hc i _ hx 0 _ rfl, hc i _ hx 1 _ rfl, hc i _ hx 2 _ rfl, hc i _ hx 3 _ rfl, hc i _ hx 4 _ rfl⟩
/-- Numbers that a tag can have. -/
def tagB (n who : Int) : Bool := decide (0 ≤ n) && decide (n ≤ 1099511627776) && decide (0 ≤ who) && decide (who ≤ 1099511627776)
/-- Can a version be? -/
def verOk (v : Ver) : Bool := tagB v.n v.who && decide (0 ≤ v.size ∧ v.size ≤ 1000 ∧ 0 ≤ v.at_ ∧ v.at_ < 12 ∧ v.text.size ≤ 1000)
def sameTag (x : Kep) (key : ByteArray) (v : Ver) : Bool := decide (x.1 = key) && decide (x.2.n = v.n) && decide (x.2.who = v.who)
/-- The m kept ones from i on: is one there with this tag? -/
def putScan (L : List Kep) (key : ByteArray) (v : Ver) : Nat → Nat → Int
  | _, 0 => if 60 ≤ L.length then 7 else 0
  | i, m + 1 => if sameTag (kepAt L i) key v then (if (kepAt L i).2 = v then -1 else 6) else putScan L key v (i + 1) m
/-- An error's number; -1: the same one is there. -/
def putErr (L : List Kep) (s : Bool) (key : ByteArray) (v : Ver) : Int := if s then 10 else if isN key then (if verOk v then putScan L key v 0 L.length else 2) else 4
theorem putScan_at {L : List Kep} {key : ByteArray} {v : Ver} {i : Nat} (hi : i < L.length) : putScan L key v i (L.length - i) = if sameTag (kepAt L i) key v then (if (kepAt L i).2 = v then -1 else 6) else putScan L key v (i + 1) (L.length - (i + 1)) := by
  rw [show L.length - i = (L.length - (i + 1)) + 1 by omega]
  rfl
/-- The keys of the first i kept ones, each where it is another one than the last. -/
def keysTo (L : List Kep) : Nat → List ByteArray
  | 0 => []
  | i + 1 => if (keysTo L i).length = 0 ∨ txt (keysTo L i) ((keysTo L i).length - 1) ≠ (kepAt L i).1 then keysTo L i ++ [(kepAt L i).1] else keysTo L i
theorem keysTo_le (L : List Kep) : ∀ i, (keysTo L i).length ≤ i
  | 0 => Nat.zero_le _
  | i + 1 => by
    have ih := keysTo_le L i
    show (if _ then _ else _ : List ByteArray).length ≤ i + 1
    split
    · rw [List.length_append]
      show _ + 1 ≤ _
      omega
    · omega
theorem keysTo_new {L : List Kep} {i : Nat} (h : (keysTo L i).length = 0 ∨ txt (keysTo L i) ((keysTo L i).length - 1) ≠ (kepAt L i).1) : keysTo L (i + 1) = keysTo L i ++ [(kepAt L i).1] := if_pos h
theorem keysTo_old {L : List Kep} {i : Nat} (h : ¬ ((keysTo L i).length = 0 ∨ txt (keysTo L i) ((keysTo L i).length - 1) ≠ (kepAt L i).1)) : keysTo L (i + 1) = keysTo L i := if_neg h
/-- Those of a key go, as many as left, from the first on. -/
def trimGo (key : ByteArray) : Nat → List Kep → List Kep
  | _, [] => []
  | left, x :: r => if x.1 = key ∧ 0 < left then trimGo key (left - 1) r else x :: trimGo key left r
theorem trimGo_at {L : List Kep} {key : ByteArray} {left i : Nat} (hi : i < L.length) : trimGo key left (L.drop i) = if (kepAt L i).1 = key ∧ 0 < left then trimGo key (left - 1) (L.drop (i + 1)) else kepAt L i :: trimGo key left (L.drop (i + 1)) := by
  have e : L.drop i = kepAt L i :: L.drop (i + 1) := by
    rw [List.drop_eq_getElem_cons hi]
    have := kepAt_get hi
    rw [List.getElem?_eq_getElem hi] at this
    rw [Option.some.inj this]
  rw [e]
  rfl
/-- How many go. -/
def goneN (L : List Kep) (key : ByteArray) (keep : Int) : Nat := ((getL L key).length - keep).toNat
def trimL (L : List Kep) (key : ByteArray) (keep : Int) : List Kep := trimGo key (goneN L key keep) L
/-- Does a kept one stand ahead of a version of a key? -/
def beforeB (x : Kep) (key : ByteArray) (v : Ver) : Bool := Op.bytesLess x.1.toList key.toList || (decide (x.1 = key) && lessB (x.2.n, x.2.who) (v.n, v.who))
/-- Where it goes in. -/
def placeN (L : List Kep) (key : ByteArray) (v : Ver) : Nat := L.findIdx fun x => !beforeB x key v
theorem placeN_at {L : List Kep} {key : ByteArray} {v : Ver} {k : Nat} (hk : k < L.length) (hall : ∀ j, j < k → beforeB (kepAt L j) key v = true) (h : beforeB (kepAt L k) key v = false) : placeN L key v = k := by
  have e : ∀ j (hj : j < L.length), L[j] = kepAt L j := fun j hj => by
    have := kepAt_get hj
    rw [List.getElem?_eq_getElem hj] at this
    exact Option.some.inj this
  unfold placeN
  rw [List.findIdx_eq hk]
  refine ⟨by rw [e k hk, h]; rfl, fun j hj => by rw [e j (by omega), hall j hj]; rfl⟩
theorem placeN_end {L : List Kep} {key : ByteArray} {v : Ver} (hall : ∀ j, j < L.length → beforeB (kepAt L j) key v = true) : placeN L key v = L.length := by
  unfold placeN
  rw [List.findIdx_eq_length]
  intro x hx
  obtain ⟨j, hj, rfl⟩ := List.getElem_of_mem hx
  have := kepAt_get hj
  rw [List.getElem?_eq_getElem hj] at this
  rw [Option.some.inj this, hall j hj]
  rfl
theorem placeN_le (L : List Kep) (key : ByteArray) (v : Ver) : placeN L key v ≤ L.length := List.findIdx_le_length
def putL (L : List Kep) (key : ByteArray) (v : Ver) : List Kep := L.take (placeN L key v) ++ [(key, v)] ++ L.drop (placeN L key v)
theorem placeN_before {L : List Kep} {key : ByteArray} {v : Ver} {j : Nat} (hj : j < placeN L key v) : beforeB (kepAt L j) key v = true := by
  have hlt : j < L.length := Nat.lt_of_lt_of_le hj (placeN_le L key v)
  have h := List.not_of_lt_findIdx (p := fun x => !beforeB x key v) (xs := L) (i := j) hj
  have e : L[j] = kepAt L j := by
    have := kepAt_get hlt
    rw [List.getElem?_eq_getElem hlt] at this
    exact Option.some.inj this
  rw [e] at h
  simpa using h
theorem placeN_here {L : List Kep} {key : ByteArray} {v : Ver} (hk : placeN L key v < L.length) : beforeB (kepAt L (placeN L key v)) key v = false := by
  have h := List.findIdx_getElem (p := fun x => !beforeB x key v) (xs := L) (w := hk)
  have e : L[placeN L key v] = kepAt L (placeN L key v) := by
    have := kepAt_get hk
    rw [List.getElem?_eq_getElem hk] at this
    exact Option.some.inj this
  have h2 : (!beforeB L[placeN L key v] key v) = true := h
  rw [e] at h2
  simpa using h2
/-- What Put answers, and what is held then. -/
def putR (L : List Kep) (s : Bool) (key : ByteArray) (v : Ver) : Int × List Kep := if putErr L s key v = 0 then (0, putL L key v) else if putErr L s key v < 0 then (0, L) else (putErr L s key v, L)
/-- The error ev is number c, bare. -/
def BareIs (ad : Nat → Addr) (ev : Value) (c : Int) : Prop := (ev = .nilIface ∧ c = 0) ∨ ∃ i, i < 12 ∧ ev = .iface 85 (.pointer (some (ad i))) ∧ c = ((i + 1 : Nat) : Int)
/-- The tag of the last of versions; of none 0. -/
def lastT (l : List Ver) : Int × Int := ((verAt l (l.length - 1)).n, (verAt l (l.length - 1)).who)
/-- From w to w' nothing that was there is written but the blocks of S; those of S' are of S, or new. -/
structure Upd (S S' : Nat → Prop) (w w' : World) : Prop where
  os : w'.os = w.os
  tape : w'.tape = w.tape
  output : w'.output = w.output
  size : w.heap.size ≤ w'.heap.size
  block : ∀ k, k < w.heap.size → ¬ S k → w'.heap[k]? = w.heap[k]?
  new : ∀ k, S' k → S k ∨ w.heap.size ≤ k
theorem Upd.of_below {S : Nat → Prop} {w w' : World} (hb : Below w.heap.size w w') : Upd S S w w' := ⟨hb.os, hb.tape, hb.output, hb.size, fun k hk _ => hb.block k hk, fun _ h => Or.inl h⟩
def verA (v : Ver) : Value := .agg #[.int .i64 v.n, .int .i64 v.who, .int .i64 v.size, .int .i64 v.at_, .string v.text]
end Go.Proofs.YtcoecfpkihakoaaDoor
/- A world with blocks laid behind it. -/
namespace Go.Proofs.YtcoecfpkihakoaaDoor
open Go.RowKit Go.Sort
theorem below_grow (w : World) (n : Nat) (os : Array Obj) : RowKit.Below w.heap.size w (grow (w.drewN n) os) := ⟨rfl, rfl, rfl, by show w.heap.size ≤ (w.heap ++ os).size; rw [Array.size_append]; omega, fun _ hj => heap_grow_old (w.drewN n) os hj⟩
end Go.Proofs.YtcoecfpkihakoaaDoor
/- What is written: one step behind another. -/
namespace Go.Proofs.YtcoecfpkihakoaaDoor
open Go.RowKit
theorem Upd.trans {S S1 S2 : Nat → Prop} {w w1 w2 : World} (h1 : Upd S S1 w w1) (h2 : Upd S1 S2 w1 w2) : Upd S S2 w w2 :=
  ⟨h2.os.trans h1.os, h2.tape.trans h1.tape, h2.output.trans h1.output, Nat.le_trans h1.size h2.size, fun k hk hs => (h2.block k (Nat.lt_of_lt_of_le hk h1.size) (fun h => (h1.new k h).elim hs (by omega))).trans (h1.block k hk hs), fun k hk => (h2.new k hk).elim (h1.new k) (fun h => Or.inr (Nat.le_trans h1.size h))⟩
end Go.Proofs.YtcoecfpkihakoaaDoor
/- Rows of versions of the call's own: other blocks are written. -/
namespace Go.Proofs.YtcoecfpkihakoaaDoor
open Go.RowKit
theorem OwnR.same' {T : TypeId} {w w' : World} {B : Nat} {v : Value} {l : List Ver} (h : OwnR verE T w B v l) (hb : ∀ k, v.ownBlock = some k → w'.heap[k]? = w.heap[k]?) : OwnR verE T w' B v l := by
  obtain ⟨h1, h2⟩ := h
  refine ⟨h1, ?_⟩
  rcases h2 with h2 | ⟨g, cap, cur, hv, hbg, hg, hrest⟩
  · exact Or.inl h2
  · refine Or.inr ⟨g, cap, cur, hv, hbg, ?_, hrest⟩
    rw [hb g (by rw [hv]; rfl)]
    exact hg
theorem OwnR.setC {T : TypeId} {w : World} {B : Nat} {v : Value} {l : List Ver} (h : OwnR verE T w B v l) {b : Nat} (hb : b < B) (i : Nat) (x : Value) : OwnR verE T (w.setCell ⟨b, i, none⟩ x) B v l := h.same' (fun k hk => Deep.blk_setCell_other _ _ _ _ (by have := (h.block hk).1; show k ≠ b; omega))
end Go.Proofs.YtcoecfpkihakoaaDoor
/- Versions: how long they are, and that ints can hold their numbers. -/
namespace Go.Proofs.YtcoecfpkihakoaaDoor
open Go.RowKit
/-- Numbers that an int can be. -/
def VerI64 (v : Ver) : Prop := (-9223372036854775808 ≤ v.n ∧ v.n ≤ 9223372036854775807) ∧ (-9223372036854775808 ≤ v.who ∧ v.who ≤ 9223372036854775807) ∧ (-9223372036854775808 ≤ v.size ∧ v.size ≤ 9223372036854775807) ∧ -9223372036854775808 ≤ v.at_ ∧ v.at_ ≤ 9223372036854775807
/-- An object that is long, and can be. -/
def bigV (v : Ver) : Bool := decide (200 < v.size ∧ v.size ≤ 1000)
/-- How much is told. -/
def tolN (L : List Ver) : Nat := (L.map fun v => 1 + v.text.size / 20).sum
theorem tolN_append (a b : List Ver) : tolN (a ++ b) = tolN a + tolN b := by simp [tolN]
theorem tolN_succ {L : List Ver} {j : Nat} (hj : j < L.length) : tolN (L.take (j + 1)) = tolN (L.take j) + (1 + (verAt L j).text.size / 20) := by
  rw [List.take_add_one, verAt_get hj, tolN_append]
  simp [tolN]
theorem tolN_take (L : List Ver) (j : Nat) : tolN (L.take j) ≤ tolN L := by
  have h : tolN L = tolN (L.take j) + tolN (L.drop j) := by rw [← tolN_append, List.take_append_drop]
  omega
theorem tolN_len (L : List Ver) : L.length ≤ tolN L := by
  induction L with
  | nil => exact Nat.le_refl _
  | cons v L ih =>
    have e : tolN (v :: L) = 1 + v.text.size / 20 + tolN L := by simp [tolN]
    rw [e, List.length_cons]
    omega
theorem big_succ {L : List Ver} {j : Nat} (hj : j < L.length) : (L.take (j + 1)).any bigV = ((L.take j).any bigV || bigV (verAt L j)) := by
  rw [List.take_add_one, verAt_get hj, List.any_append]
  simp
theorem big_of_at {L : List Ver} {j : Nat} (hj : j < L.length) (h : bigV (verAt L j) = true) : L.any bigV = true := by
  refine List.any_eq_true.2 ⟨_, ?_, h⟩
  have := verAt_get hj
  exact List.mem_of_getElem? this
end Go.Proofs.YtcoecfpkihakoaaDoor
/- Package hold's own: a number within bounds; is it a tag? -/
namespace Go.Proofs.YtcoecfpkihakoaaDoor
open Go.RowKit
set_option maxRecDepth 10000 in
theorem hwithin_any (x m : Int) (w : World) : Calls Tryd.prog 33 #[.int .i64 x, .int .i64 m] w fun e w' => e = .returned (.bool (decide (0 ≤ x ∧ x ≤ m))) ∧ w' = w := by
  by_cases h1 : 0 ≤ x
  · by_cases h2 : x ≤ m
    · have HE : Hid (decide (0 ≤ x ∧ x ≤ m) = true) := decide_eq_true ⟨h1, h2⟩
      rw [HE.out]
      go_enter Tryd.func33, Tryd.ntmps33
      go_wp2
      go_ret
      exact ⟨rfl, rfl⟩
    · have HE : Hid (decide (0 ≤ x ∧ x ≤ m) = false) := decide_eq_false fun h => h2 h.2
      rw [HE.out]
      go_enter Tryd.func33, Tryd.ntmps33
      go_wp2
      go_ret
      exact ⟨rfl, rfl⟩
  · have HE : Hid (decide (0 ≤ x ∧ x ≤ m) = false) := decide_eq_false fun h => h1 h.1
    rw [HE.out]
    go_enter Tryd.func33, Tryd.ntmps33
    go_wp2
    go_ret
    exact ⟨rfl, rfl⟩
/-- Numbers of a tag in their bounds. -/
def tagOk (a b : Int) : Bool := decide (0 ≤ a ∧ a ≤ 1099511627776) && decide (0 ≤ b ∧ b ≤ 1099511627776)
set_option maxRecDepth 10000 in
theorem istag_any (a b : Int) (w : World) : Calls Tryd.prog 32 #[.agg #[.int .i64 a, .int .i64 b]] w fun e w' => e = .returned (.bool (tagOk a b)) ∧ Below w.heap.size w w' := by
  obtain ⟨w1, hw1⟩ : ∃ w1, w1 = w.alloc (.cells #[.int .i64 a, .int .i64 b] 24) := ⟨_, rfl⟩
  have HB1 : Hid (Below w.heap.size w w1) := by rw [hw1]; exact (Below.refl _ _).alloc (Nat.le_refl _) _
  have f0 : w1.cell? ⟨w.heap.size, 0, none⟩ = some (.int .i64 a) := by rw [hw1, World.cell?_alloc_at _ _ _ _ rfl]; rfl
  have f1 : w1.cell? ⟨w.heap.size, 1, none⟩ = some (.int .i64 b) := by rw [hw1, World.cell?_alloc_at _ _ _ _ rfl]; rfl
  have HW1 : Hid (w1 = w.alloc (.cells #[.int .i64 a, .int .i64 b] 24)) := hw1
  have HA : Hid (Calls Tryd.prog 33 #[.int .i64 a, .int .i64 1099511627776] w1 fun e w' => e = .returned (.bool (decide (0 ≤ a ∧ a ≤ 1099511627776))) ∧ w' = w1) := hwithin_any _ _ w1
  have HC : Hid (Calls Tryd.prog 33 #[.int .i64 b, .int .i64 1099511627776] w1 fun e w' => e = .returned (.bool (decide (0 ≤ b ∧ b ≤ 1099511627776))) ∧ w' = w1) := hwithin_any _ _ w1
  have HT : Hid (tagOk a b = (decide (0 ≤ a ∧ a ≤ 1099511627776) && decide (0 ≤ b ∧ b ≤ 1099511627776))) := by show _ = _; rfl
  rw [HT.out]
  clear hw1 HT
  generalize decide (0 ≤ a ∧ a ≤ 1099511627776) = x at *
  generalize decide (0 ≤ b ∧ b ≤ 1099511627776) = y at *
  cases x with
  | false =>
    go_enter Tryd.func32, Tryd.ntmps32
    go_wp2_with fail
    rw [← HW1.out]
    refine HA.out.mono ?_
    rintro e w2 ⟨rfl, hw2⟩
    rw [hw2]
    clear hw2 w2 HA
    go_wp2
    go_ret
    exact ⟨rfl, HB1.out⟩
  | true =>
    go_enter Tryd.func32, Tryd.ntmps32
    go_wp2_with fail
    rw [← HW1.out]
    refine HA.out.mono ?_
    rintro e w2 ⟨rfl, hw2⟩
    rw [hw2]
    clear hw2 w2 HA
    go_wp2_with fail
    refine HC.out.mono ?_
    rintro e w2 ⟨rfl, hw2⟩
    rw [hw2]
    clear hw2 w2 HC
    go_wp2
    go_ret
    exact ⟨rfl, HB1.out⟩
end Go.Proofs.YtcoecfpkihakoaaDoor
/- Messages that lie in memory, one behind the other. -/
namespace Go.Proofs.YtcoecfpkihakoaaDoor
open Go.RowKit
/-- Where a message's versions lie. -/
abbrev Lv := Option Addr × Nat × Nat
def lvV (h : Lv) : Value := .slice h.1 h.2.1 h.2.2
def msgC (x : Msg × Lv) : List Value := [.string x.1.from_, .string x.1.to_, .string x.1.kind, .string x.1.key, .int .i64 x.1.op, .int .i64 x.1.config, .bool x.1.shut, .slice x.2.1 x.2.2.1 x.2.2.2]
def mE : Enc (Msg × Lv) := ⟨8, by decide, msgC, fun _ => rfl, fun x u hu => by simp [msgC] at hu; rcases hu with rfl | rfl | rfl | rfl | rfl | rfl | rfl | rfl <;> rfl⟩
/-- A message's versions lie there. -/
structure HasL (w : World) (x : Msg × Lv) : Prop where
  len : x.2.2.1 = x.1.L.length
  recs : Rec verE w x.2.1 x.1.L
  room : x.1.L.length ≤ x.2.2.2
  empty : x.2.1 = none → x.1.L = [] ∧ x.2.2.2 = 0
theorem HasL.below {w w' : World} {x : Msg × Lv} (h : HasL w x) (hb : Below w.heap.size w w') : HasL w' x := ⟨h.len, h.recs.below hb, h.room, h.empty⟩
/-- In the world w the messages l lie from p on. -/
def MsgsAt (w : World) (p : Option Addr) (l : List Msg) : Prop := ∃ ml : List (Msg × Lv), ml.map Prod.fst = l ∧ Rec mE w p ml ∧ ∀ x ∈ ml, HasL w x
theorem MsgsAt.below {w w' : World} {p : Option Addr} {l : List Msg} (h : MsgsAt w p l) (hb : Below w.heap.size w w') : MsgsAt w' p l := by
  obtain ⟨ml, h1, h2, h3⟩ := h
  exact ⟨ml, h1, h2.below hb, fun x hx => (h3 x hx).below hb⟩
theorem MsgsAt.nil (w : World) (p : Option Addr) : MsgsAt w p [] := ⟨[], rfl, Rec.nil _ _, fun x hx => by cases hx⟩
/-- v owns messages in a row from block B on. -/
def OwnMs (T : TypeId) (w : World) (B : Nat) (v : Value) (ml : List (Msg × Lv)) : Prop := OwnR mE T w B v ml ∧ ∀ x ∈ ml, HasL w x
theorem OwnMs.nil (T : TypeId) (w : World) (B : Nat) : OwnMs T w B (.slice none 0 0) [] := ⟨OwnR.nil _ _ _, fun x hx => by cases hx⟩
theorem OwnMs.kept {T : TypeId} {w w' : World} {B : Nat} {v : Value} {ml : List (Msg × Lv)} (h : OwnMs T w B v ml) (hb : Below w.heap.size w w') : OwnMs T w' B v ml := ⟨h.1.kept hb, fun x hx => (h.2 x hx).below hb⟩
theorem OwnMs.form {T : TypeId} {w : World} {B : Nat} {v : Value} {ml : List (Msg × Lv)} (h : OwnMs T w B v ml) : ∃ p c, v = .slice p ml.length c ∧ MsgsAt w p (ml.map Prod.fst) ∧ ml.length ≤ c ∧ (p = none → ml = [] ∧ c = 0) := by
  obtain ⟨p, c, h1, h2, h3, h4, _⟩ := h.1.form
  exact ⟨p, c, h1, ⟨ml, rfl, h2, h.2⟩, h3, h4⟩
theorem msginfo (T : TypeId) (hT : (Tryd.prog.info? T).map (fun i => (i.zero, i.size, i.bytes)) = some (some (.agg #[.string ⟨#[]⟩, .string ⟨#[]⟩, .string ⟨#[]⟩, .string ⟨#[]⟩, .int .i64 0, .int .i64 0, .bool false, .slice none 0 0]), 8, 112)) : (Tryd.prog.info? T).map (fun i => (i.zero, i.size, i.bytes)) = some (some (.agg #[.string ⟨#[]⟩, .string ⟨#[]⟩, .string ⟨#[]⟩, .string ⟨#[]⟩, .int .i64 0, .int .i64 0, .bool false, .slice none 0 0]), mE.k, 112) := hT
theorem minfoR : (Tryd.prog.info? 40).map (fun i => (i.zero, i.size, i.bytes)) = some (some (.agg #[.string ⟨#[]⟩, .string ⟨#[]⟩, .string ⟨#[]⟩, .string ⟨#[]⟩, .int .i64 0, .int .i64 0, .bool false, .slice none 0 0]), mE.k, 112) := msginfo _ (by kernel_rfl)
/-- The cells of one of them. -/
theorem msg_cells {w : World} {p : Option Addr} {ml : List (Msg × Lv)} (h : Rec mE w p ml) {i : Nat} (hi : i < ml.length) : ∃ b o, p = some ⟨b, o, none⟩ ∧ b < w.heap.size ∧ w.cell? ⟨b, o + i * 8, none⟩ = some (.string ml[i].1.from_) ∧ w.cell? ⟨b, o + i * 8 + 1, none⟩ = some (.string ml[i].1.to_) ∧ w.cell? ⟨b, o + i * 8 + 2, none⟩ = some (.string ml[i].1.kind) ∧ w.cell? ⟨b, o + i * 8 + 3, none⟩ = some (.string ml[i].1.key) ∧ w.cell? ⟨b, o + i * 8 + 4, none⟩ = some (.int .i64 ml[i].1.op) ∧ w.cell? ⟨b, o + i * 8 + 5, none⟩ = some (.int .i64 ml[i].1.config) ∧ w.cell? ⟨b, o + i * 8 + 6, none⟩ = some (.bool ml[i].1.shut) ∧ w.cell? ⟨b, o + i * 8 + 7, none⟩ = some (.slice ml[i].2.1 ml[i].2.2.1 ml[i].2.2.2) := by
  rcases h with h0 | ⟨b, o, hp, hlt, hc⟩
  · rw [h0] at hi; exact absurd hi (Nat.not_lt_zero _)
  · have hx : ml[i]? = some ml[i] := List.getElem?_eq_getElem hi
    have g := hc i _ hx
    exact ⟨b, o, hp, hlt, g 0 _ rfl, g 1 _ rfl, g 2 _ rfl, g 3 _ rfl, g 4 _ rfl, g 5 _ rfl, g 6 _ rfl, g 7 _ rfl⟩
/-- One of them, by its number. -/
def msgAt (ml : List (Msg × Lv)) (i : Nat) : Msg × Lv := ml.getD i (⟨⟨#[]⟩, ⟨#[]⟩, ⟨#[]⟩, ⟨#[]⟩, 0, 0, false, []⟩, (none, 0, 0))
theorem msgAt_get {ml : List (Msg × Lv)} {i : Nat} (h : i < ml.length) : ml[i] = msgAt ml i := by
  unfold msgAt
  rw [List.getD_eq_getElem?_getD, List.getElem?_eq_getElem h]
  rfl
theorem msgAt_mem {ml : List (Msg × Lv)} {i : Nat} (h : i < ml.length) : msgAt ml i ∈ ml := by
  rw [← msgAt_get h]
  exact List.getElem_mem h
theorem msg_take {ml : List (Msg × Lv)} {i : Nat} (h : i < ml.length) : ml.take (i + 1) = ml.take i ++ [msgAt ml i] := by
  rw [List.take_succ_eq_append_getElem h, msgAt_get h]
end Go.Proofs.YtcoecfpkihakoaaDoor
/- Messages that lie in memory from a block on. -/
namespace Go.Proofs.YtcoecfpkihakoaaDoor
open Go.RowKit
/-- In the world w the messages l lie from p on, in blocks from B on. -/
def MsgsN (B : Nat) (w : World) (p : Option Addr) (l : List Msg) : Prop := ∃ ml : List (Msg × Lv), ml.map Prod.fst = l ∧ Rec mE w p ml ∧ (∀ x ∈ ml, HasL w x ∧ ∀ b o, x.2.1 = some ⟨b, o, none⟩ → B ≤ b) ∧ ∀ b o, p = some ⟨b, o, none⟩ → B ≤ b
theorem MsgsN.at_ {B : Nat} {w : World} {p : Option Addr} {l : List Msg} (h : MsgsN B w p l) : MsgsAt w p l := by
  obtain ⟨ml, h1, h2, h3, _⟩ := h
  exact ⟨ml, h1, h2, fun x hx => (h3 x hx).1⟩
theorem MsgsN.nil (B : Nat) (w : World) : MsgsN B w none [] := ⟨[], rfl, Rec.nil _ _, (fun x hx => by cases hx), (fun b o e => by cases e)⟩
theorem MsgsN.mono {B B' : Nat} {w : World} {p : Option Addr} {l : List Msg} (h : MsgsN B w p l) (hb : B' ≤ B) : MsgsN B' w p l := by
  obtain ⟨ml, h1, h2, h3, h4⟩ := h
  exact ⟨ml, h1, h2, fun x hx => ⟨(h3 x hx).1, fun b o e => Nat.le_trans hb ((h3 x hx).2 b o e)⟩, fun b o e => Nat.le_trans hb (h4 b o e)⟩
theorem MsgsN.below {B : Nat} {w w' : World} {p : Option Addr} {l : List Msg} (h : MsgsN B w p l) (hb : Below w.heap.size w w') : MsgsN B w' p l := by
  obtain ⟨ml, h1, h2, h3, h4⟩ := h
  exact ⟨ml, h1, h2.below hb, fun x hx => ⟨(h3 x hx).1.below hb, (h3 x hx).2⟩, h4⟩
/-- Where those blocks are not written. -/
theorem MsgsN.upd {B : Nat} {w w' : World} {p : Option Addr} {l : List Msg} (h : MsgsN B w p l) (hs : w.heap.size ≤ w'.heap.size) (hk : ∀ k, B ≤ k → k < w.heap.size → w'.heap[k]? = w.heap[k]?) : MsgsAt w' p l := by
  obtain ⟨ml, h1, h2, h3, h4⟩ := h
  refine ⟨ml, h1, ?_, fun x hx => ?_⟩
  · rcases h2 with h0 | ⟨b, o, hp, hlt, hc⟩
    · exact Or.inl h0
    · exact Or.inr ⟨b, o, hp, Nat.lt_of_lt_of_le hlt hs, fun j x hx jj u hu => (World.cell?_of_block (a := ⟨b, o + j * mE.k + jj, none⟩) (hk b (h4 b o hp) hlt)).trans (hc j x hx jj u hu)⟩
  · obtain ⟨g1, g2⟩ := h3 x hx
    refine ⟨g1.len, ?_, g1.room, g1.empty⟩
    rcases g1.recs with h0 | ⟨b, o, hp, hlt, hc⟩
    · exact Or.inl h0
    · exact Or.inr ⟨b, o, hp, Nat.lt_of_lt_of_le hlt hs, fun j y hy jj u hu => (World.cell?_of_block (a := ⟨b, o + j * verE.k + jj, none⟩) (hk b (g2 b o hp) hlt)).trans (hc j y hy jj u hu)⟩
end Go.Proofs.YtcoecfpkihakoaaDoor
/- Messages of the call's own. -/
namespace Go.Proofs.YtcoecfpkihakoaaDoor
open Go.RowKit
theorem blk_setG {w : World} {b : Nat} {cs : Array Value} {t : TypeId} (h : w.heap[b]? = some (.cells cs t (0, 0))) (i : Nat) (v : Value) : (w.setCell ⟨b, i, none⟩ v).heap[b]? = some (.cells (cs.setIfInBounds i v) t (0, 0)) := by
  simp [World.setCell, Array.getElem?_modify, h]
theorem hasL_own {w : World} {B : Nat} {T : TypeId} {p : Option Addr} {n c : Nat} {x : Msg} (h : OwnR verE T w B (.slice p n c) x.L) : HasL w (x, (p, n, c)) := by
  obtain ⟨p', c', e, h1, h2, h3, _⟩ := h.form
  injection e with e1 e2 e3
  subst e1 e2 e3
  exact ⟨rfl, h1, h2, h3⟩
/-- One message in a row of its own. -/
theorem one_msg {w : World} {k : Nat} {x : Msg × Lv} {t : TypeId} (hb : w.heap[k]? = some (.cells (msgC x).toArray t (0, 0))) (hx : HasL w x) : MsgsAt w (some ⟨k, 0, none⟩) [x.1] := by
  have hlt : k < w.heap.size := by
    rcases Nat.lt_or_ge k w.heap.size with h | h
    · exact h
    · rw [Array.getElem?_eq_none h] at hb; cases hb
  refine ⟨[x], rfl, Or.inr ⟨k, 0, rfl, hlt, fun i y hy j u hu => ?_⟩, fun y hy => by rw [List.mem_singleton.1 hy]; exact hx⟩
  match i, hy with
  | 0, hy =>
    obtain rfl : x = y := by simpa using hy
    have hu' : (msgC x)[j]? = some u := hu
    rw [Nat.zero_mul, Nat.zero_add]
    simp [World.cell?, hb, hu']
end Go.Proofs.YtcoecfpkihakoaaDoor
