/- Texts and their bytes; what a shard's bytes are; shards of a sum are sums of shards. -/
import Derived.Test.YthokfjkgmopeoaaDoorEncW
namespace Go.Proofs.YthokfjkgmopeoaaDoor
open Go.RowKit
theorem bytesOf_length (s : ByteArray) : (bytesOf s).length = s.size := by simp [bytesOf]
theorem mem_bytes {l : List Nat} (h : Gf.Bytes l) {x : Nat} (hx : x ∈ l) : x < 256 := by
  obtain ⟨i, hi, rfl⟩ := List.getElem_of_mem hx
  have := h i
  rwa [Gf.nth_getElem l i hi] at this
theorem bytesOf_strOf {l : List Nat} (h : Gf.Bytes l) : bytesOf (strOf l) = l := by
  unfold bytesOf strOf
  rw [strOfNums_data, List.map_map, List.map_map]
  conv => rhs; rw [← List.map_id l]
  refine List.map_congr_left fun x hx => ?_
  have := mem_bytes h hx
  simp only [Function.comp]
  show (UInt8.ofNat x).toNat = x
  simp only [UInt8.toNat_ofNat']
  omega
theorem strOf_bytesOf (s : ByteArray) : strOf (bytesOf s) = s := by
  unfold bytesOf strOf strOfNums
  rw [List.map_map, List.map_map]
  have : (List.map (((fun n : Int => UInt8.ofNat n.toNat) ∘ Int.ofNat) ∘ UInt8.toNat) s.data.toList) = s.data.toList := by
    conv => rhs; rw [← List.map_id s.data.toList]
    refine List.map_congr_left fun x _ => ?_
    show UInt8.ofNat x.toNat = x
    exact UInt8.ofNat_toNat
  rw [this]
theorem strOf_size (l : List Nat) : (strOf l).size = l.length := by
  unfold strOf
  rw [strOfNums_size, List.length_map]
theorem run_idx (s : ByteArray) (i : Nat) (h : i < s.size) (W : World) : Sem.run Tryd.prog (Instr.index 9 (.string s) (.int .i64 (i : Int))) W = .ok (.int .u8 ((Gf.nth (bytesOf s) i : Nat) : Int)) W := by
  rw [run_index_string W 9 s .i64 _ Tryd.underlying9, dif_pos ⟨by omega, by omega⟩, bytesOf_nth s i h]
  congr 3
theorem nth_ext {l m : List Nat} (hl : l.length = m.length) (h : ∀ i, i < l.length → Gf.nth l i = Gf.nth m i) : l = m := by
  refine List.ext_getElem hl fun i h1 h2 => ?_
  rw [← Gf.nth_getElem l i h1, ← Gf.nth_getElem m i h2]
  exact h i h1
theorem nth_past {l : List Nat} {i : Nat} (h : l.length ≤ i) : Gf.nth l i = 0 := by
  show l.getD i 0 = 0
  rw [List.getD_eq_getElem?_getD, List.getElem?_eq_none h]
  rfl
/-- The factor of row j in shard i. -/
def facN (k : Nat) : Nat → Nat → Nat := fun i j => Gf.shareOf (upToL k) j i
theorem facN_lt (k i j : Nat) : facN k i j < 256 := Gf.shareOf_lt _ _ _
theorem encT_bytes (k : Nat) (s : ByteArray) (i : Nat) : bytesOf (encT k s i) = rowT (facN k) (objN s (wideN k s.size)) k (wideN k s.size) i :=
  bytesOf_strOf (rowFn_bytes _ _ fun _ => rsumN_lt (fun _ _ => Gf.shareOf_lt _ _ _) _ _ _)
theorem encT_size (k : Nat) (s : ByteArray) (i : Nat) : (encT k s i).size = wideN k s.size := by
  rw [← bytesOf_length, encT_bytes]
  exact rowFn_length _ _
theorem encT_nth (k : Nat) (s : ByteArray) (i c : Nat) (hc : c < wideN k s.size) : Gf.nth (bytesOf (encT k s i)) c = rsumN (facN k) (objN s (wideN k s.size)) i c k := by
  rw [encT_bytes]
  exact nth_rowFn _ _ c hc
theorem rsumN_xor (f u v x : Nat → Nat → Nat) (i c : Nat) : ∀ k, (∀ j, j < k → x j c = u j c ^^^ v j c) → rsumN f x i c k = rsumN f u i c k ^^^ rsumN f v i c k
  | 0, _ => by show 0 = 0 ^^^ 0; rfl
  | k + 1, h => by
    show rsumN f x i c k ^^^ _ = (rsumN f u i c k ^^^ _) ^^^ (rsumN f v i c k ^^^ _)
    rw [rsumN_xor f u v x i c k (fun j hj => h j (by omega)), h k (by omega), Gf.mul_right, Gf.xor_left_comm]
/-- The sum of two texts, byte by byte. -/
def sumT (a b : ByteArray) : List Nat := rowFn a.size fun i => Gf.nth (bytesOf a) i ^^^ Gf.nth (bytesOf b) i
theorem sumT_bytes (a b : ByteArray) : Gf.Bytes (sumT a b) := rowFn_bytes _ _ fun i => Gf.xlt (bytesOf_lt a i) (bytesOf_lt b i)
theorem sumT_size (a b : ByteArray) : (strOf (sumT a b)).size = a.size := by rw [strOf_size]; exact rowFn_length _ _
theorem enc_sum (k : Nat) (a b : ByteArray) (hab : b.size = a.size) (i c : Nat) (hc : c < wideN k a.size) :
    Gf.nth (bytesOf (encT k (strOf (sumT a b)) i)) c = Gf.nth (bytesOf (encT k a i)) c ^^^ Gf.nth (bytesOf (encT k b i)) c := by
  rw [encT_nth k _ i c (by rw [sumT_size]; exact hc), encT_nth k a i c hc, encT_nth k b i c (by rw [hab]; exact hc), sumT_size, hab]
  refine rsumN_xor _ _ _ _ i c k (fun j _ => ?_)
  unfold objN
  rw [bytesOf_strOf (sumT_bytes a b)]
  by_cases h : j * wideN k a.size + c < a.size
  · exact nth_rowFn _ _ _ h
  · rw [nth_past (l := sumT a b) (by unfold sumT; rw [rowFn_length]; omega), nth_past (l := bytesOf a) (by rw [bytesOf_length]; omega), nth_past (l := bytesOf b) (by rw [bytesOf_length]; omega)]
    rfl
end Go.Proofs.YthokfjkgmopeoaaDoor
