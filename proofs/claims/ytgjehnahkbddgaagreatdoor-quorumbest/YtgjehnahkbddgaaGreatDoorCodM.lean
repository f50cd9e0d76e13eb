/- What a shard's bytes are; shards of a sum are sums of shards. -/
import Derived.Test.YtgjehnahkbddgaaGreatDoorEncDW
namespace Go.Proofs.YtgjehnahkbddgaaGreatDoor
open Go.RowKit
/-- The factor of row j in shard i. -/
def facN (k : Nat) : Nat → Nat → Nat := fun i j => Gf.shareOf (upToL k) j i
theorem facN_lt (k i j : Nat) : facN k i j < 256 := Gf.shareOf_lt _ _ _
theorem encT_bytes (k : Nat) (s : ByteArray) (i : Nat) : bytesOf (encT k s i) = rowT (facN k) (objN s (wideN k s.size)) k (wideN k s.size) i :=
  bytesOf_strOf (rowFn_bytes _ _ fun _ => rsumN_lt (fun _ _ => Gf.shareOf_lt _ _ _) _ _ _)
theorem encT_size (k : Nat) (s : ByteArray) (i : Nat) : (encT k s i).size = wideN k s.size := by
  rw [← bytesOf_length, encT_bytes]
  exact rowFn_length _ _
theorem encT_nth (k : Nat) (s : ByteArray) (i c : Nat) (hc : c < wideN k s.size) : Gf.nth (bytesOf (encT k s i)) c = rsumN (facN k) (objN s (wideN k s.size)) i c k := by
  rw [encT_bytes]
  exact nth_rowFn _ _ c hc
theorem rsumN_xor (f u v x : Nat → Nat → Nat) (i c : Nat) : ∀ k, (∀ j, j < k → x j c = u j c ^^^ v j c) → rsumN f x i c k = rsumN f u i c k ^^^ rsumN f v i c k
  | 0, _ => by show 0 = 0 ^^^ 0; rfl
  | k + 1, h => by
    show rsumN f x i c k ^^^ _ = (rsumN f u i c k ^^^ _) ^^^ (rsumN f v i c k ^^^ _)
    rw [rsumN_xor f u v x i c k (fun j hj => h j (by omega)), h k (by omega), Gf.mul_right, Gf.xor_left_comm]
/-- The sum of two texts, byte by byte. -/
def sumT (a b : ByteArray) : List Nat := rowFn a.size fun i => Gf.nth (bytesOf a) i ^^^ Gf.nth (bytesOf b) i
theorem sumT_bytes (a b : ByteArray) : Gf.Bytes (sumT a b) := rowFn_bytes _ _ fun i => Gf.xlt (bytesOf_lt a i) (bytesOf_lt b i)
theorem sumT_size (a b : ByteArray) : (strOf (sumT a b)).size = a.size := by rw [strOf_size]; exact rowFn_length _ _
theorem enc_sum (k : Nat) (a b : ByteArray) (hab : b.size = a.size) (i c : Nat) (hc : c < wideN k a.size) :
    Gf.nth (bytesOf (encT k (strOf (sumT a b)) i)) c = Gf.nth (bytesOf (encT k a i)) c ^^^ Gf.nth (bytesOf (encT k b i)) c := by
  rw [encT_nth k _ i c (by rw [sumT_size]; exact hc), encT_nth k a i c hc, encT_nth k b i c (by rw [hab]; exact hc), sumT_size, hab]
  refine rsumN_xor _ _ _ _ i c k (fun j _ => ?_)
  unfold objN
  rw [bytesOf_strOf (sumT_bytes a b)]
  by_cases h : j * wideN k a.size + c < a.size
  · exact nth_rowFn _ _ _ h
  · rw [nth_past (l := sumT a b) (by unfold sumT; rw [rowFn_length]; omega), nth_past (l := bytesOf a) (by rw [bytesOf_length]; omega), nth_past (l := bytesOf b) (by rw [bytesOf_length]; omega)]
    rfl
end Go.Proofs.YtgjehnahkbddgaaGreatDoor
