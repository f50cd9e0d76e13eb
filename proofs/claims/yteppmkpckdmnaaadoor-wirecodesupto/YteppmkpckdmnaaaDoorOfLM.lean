/- Texts as lists of bytes. -/
import Derived.Test.YteppmkpckdmnaaaDoorStrM
namespace Go.Proofs.YteppmkpckdmnaaaDoor
open Go.RowKit
/-- A text of bytes. -/
def ofL (l : List UInt8) : ByteArray := ⟨l.toArray⟩
theorem ofL_size (l : List UInt8) : (ofL l).size = l.length := by
  show l.toArray.size = l.length
  simp
theorem ofL_data (l : List UInt8) : (ofL l).data.toList = l := by simp [ofL]
theorem ofL_self (s : ByteArray) : ofL s.data.toList = s := by
  unfold ofL
  rw [Array.toArray_toList]
theorem extract_ofL (l : List UInt8) (a b : Nat) : (ofL l).extract a b = ofL ((l.take b).drop a) := by
  refine ByteArray.ext (Array.toList_inj.1 ?_)
  rw [ByteArray.data_extract, Array.toList_extract, ofL_data, ofL_data, List.extract_eq_take_drop]
  rw [List.drop_take]
theorem ofL_left (a b : List UInt8) : (ofL (a ++ b)).extract 0 a.length = ofL a := by rw [extract_ofL]; simp
theorem ofL_right (a b : List UInt8) : (ofL (a ++ b)).extract a.length (ofL (a ++ b)).size = ofL b := by
  rw [extract_ofL, ofL_size, List.take_of_length_le (Nat.le_refl _), List.drop_left]
theorem ofL_append (a b : List UInt8) : ofL a ++ ofL b = ofL (a ++ b) := by
  apply ByteArray.ext
  simp [ofL]
theorem ofL_str (l : List Nat) : strOf l = ofL (l.map UInt8.ofNat) := by
  unfold strOf strOfNums ofL
  rw [List.map_map]
  rfl
end Go.Proofs.YteppmkpckdmnaaaDoor
