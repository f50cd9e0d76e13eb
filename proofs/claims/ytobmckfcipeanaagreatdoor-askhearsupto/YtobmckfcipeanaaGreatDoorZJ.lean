import Derived.Test.YtobmckfcipeanaaGreatDoorZH
import Derived.Test.YtobmckfcipeanaaGreatDoorZD
import Derived.Test.YtobmckfcipeanaaGreatDoorYC
import Derived.Lib.Join
namespace Go.Proofs.YtobmckfcipeanaaGreatDoor
open Go.RowKit
def sprRow (k x : Nat) : List Nat := rowFn k fun j => Gf.shareOf (upToL k) j x
theorem spread_rows {w : World} {gm n k : Nat} (h : Mat w (some ⟨gm, 0, none⟩) (spreadM k n)) (hn : 1 <= n) (hk : 1 <= k) : ∃ rb ro rc : Nat -> Nat, gm < w.heap.size /\ ∀ i, i < n -> w.cell? ⟨gm, i, none⟩ = some (.slice (some ⟨rb i, ro i, none⟩) k (rc i)) /\ Seg w (some ⟨rb i, ro i, none⟩) (sprRow k i) := by
 have hf : spreadM k n = matFn n k (fun i j => Gf.shareOf (upToL k) j i) := rfl
 have h1 : ∀ i, i < n -> ∃ b1 o1 c, w.cell? ⟨gm, i, none⟩ = some (.slice (some ⟨b1, o1, none⟩) k c) /\ Seg w (some ⟨b1, o1, none⟩) (sprRow k i) := fun i hi => by
  rw [hf] at h
  have hr : rowOf (matFn n k fun i j => Gf.shareOf (upToL k) j i) i = sprRow k i := rowOf_matFn n k _ i hi
  obtain ⟨b, o, b1, o1, c, hp, _, hb1, h2, h3⟩ := h.row (i := i) (by rw [matFn_length]; exact hi) (by rw [hr]; unfold sprRow; rw [rowFn_length]; omega)
  injection hp with hp
  injection hp with e1 e2 _
  subst e1 e2
  rw [hr] at h2 h3
  have hl : (sprRow k i).length = k := rowFn_length _ _
  rw [hl, Nat.zero_add] at h2
  exact ⟨b1, o1, c, h2, ⟨rowFn_bytes _ _ (fun j => Gf.shareOf_lt _ _ _), Or.inr ⟨b1, o1, rfl, hb1, h3⟩⟩⟩
 have h2 : ∀ i, ∃ t : Nat × Nat × Nat, i < n -> w.cell? ⟨gm, i, none⟩ = some (.slice (some ⟨t.1, t.2.1, none⟩) k t.2.2) /\ Seg w (some ⟨t.1, t.2.1, none⟩) (sprRow k i) := fun i => by
  by_cases hi : i < n
  ·obtain ⟨b1, o1, c, h3⟩ := h1 i hi
   exact ⟨(b1, o1, c), fun _ => h3⟩
  ·exact ⟨(0, 0, 0), fun h => absurd h hi⟩
 refine ⟨fun i => (Classical.choose (h2 i)).1, fun i => (Classical.choose (h2 i)).2.1, fun i => (Classical.choose (h2 i)).2.2, ?_, fun i hi => Classical.choose_spec (h2 i) hi⟩
 obtain ⟨_, _, _, h3, _⟩ := h1 0 (by omega)
 exact lt_of_cell h3
theorem picked_isMat {k : Nat} {X : List Nat} (hk1 : 1 <= k) (hk : k <= 12) (hX : X.length = k) : IsMat (X.map (sprRow k)) := by
 have hl : ∀ i, i < X.length -> (rowOf (X.map (sprRow k)) i).length = k := fun i hi => by
  unfold rowOf
  rw [List.getD_eq_getElem?_getD, List.getElem?_map, List.getElem?_eq_getElem hi]
  exact rowFn_length _ _
 refine ⟨by rw [List.length_map]; omega, by rw [List.length_map]; omega, fun i hi => ?_⟩
 rw [List.length_map] at hi
 rw [hl i hi, hl 0 (by omega)]
 exact ⟨hk1, by omega, rfl⟩
theorem picked_bytes (k : Nat) (X : List Nat) : BytesM (X.map (sprRow k)) := fun i => by
 by_cases hi : i < X.length
 ·have : rowOf (X.map (sprRow k)) i = sprRow k X[i] := by unfold rowOf; rw [List.getD_eq_getElem?_getD, List.getElem?_map, List.getElem?_eq_getElem hi]; rfl
  rw [this]
  exact rowFn_bytes _ _ (fun j => Gf.shareOf_lt _ _ _)
 ·intro j
  have : rowOf (X.map (sprRow k)) i = [] := by unfold rowOf; rw [List.getD_eq_getElem?_getD, List.getElem?_eq_none (by rw [List.length_map]; omega)]; rfl
  rw [this]
  show ([] : List Nat).getD j 0 < 256
  simp
theorem picked_rank {n k : Nat} {X : List Nat} (hn : n <= 12) (hX : X.length = k) (hnd : X.Nodup) (hlt : ∀ x ∈ X, x < n) (hk : k <= n) : Lin.IsRank k k (vec (X.map (sprRow k))) k := by
 have hb : Gf.Bytes X := fun i => by
  by_cases hi : i < X.length
  ·rw [Gf.nth_getElem X i hi]; have := hlt _ (List.getElem_mem hi); omega
  ·show X.getD i 0 < 256
   rw [List.getD_eq_getElem?_getD, List.getElem?_eq_none (by omega)]; decide
 have h := shares_indep (upToL k) X (upToL_bytes k (by omega)) (upToL_nodup k) hb hnd (by rw [upToL_length]; exact hX)
 rw [upToL_length, hX] at h
 refine rank_of_indep ?_
 intro c hc
 refine h c (fun j hj => ?_)
 rw [<- hc j hj]
 refine Lin.fsum_congr fun r hr => ?_
 have hr' : r < X.length := by omega
 have e1 : rowOf (X.map (sprRow k)) r = sprRow k X[r] := by unfold rowOf; rw [List.getD_eq_getElem?_getD, List.getElem?_map, List.getElem?_eq_getElem hr']; rfl
 show Lin.mu (c r) (toF (Gf.shareOf (upToL k) j (Gf.nth X r))) = Lin.mu (c r) (toF (Gf.nth (rowOf (X.map (sprRow k)) r) j))
 rw [e1, Gf.nth_getElem X r hr']
 unfold sprRow
 rw [nth_rowFn _ _ j hj]
def invN (X : List Nat) : Nat -> Nat -> Nat := fun i j => Gf.shareOf X j i
theorem invN_lt (X : List Nat) (i j : Nat) : invN X i j < 256 := Gf.shareOf_lt _ _ _
def sprX (k : Nat) (X : List Nat) : Nat -> Nat -> Lin.F := fun i j => toF (facN k (Gf.nth X i) j)
theorem inv_left {X : List Nat} {k : Nat} (hX : Gf.Bytes X) (hn : X.Nodup) (hl : X.length = k) (hk : k <= 256) : ∀ i j, i < k -> j < k -> Lin.mm k (vecF (invN X)) (sprX k X) i j = Lin.one i j := by
 obtain ⟨y, hy⟩ := Lin.inverse_of_indep (vander_indep k hk)
 have hy' := Lin.right_of_left hy
 have e1 : ∀ i m, i < k -> m < k -> Lin.mm k (Lin.mm k (vecF (invN X)) (sprX k X)) (vecF Gf.rep) i m = vecF Gf.rep i m := fun i m hi hm => by
  rw [Lin.mm_assoc]
  have e2 : Lin.mm k (vecF (invN X)) (Lin.mm k (sprX k X) (vecF Gf.rep)) i m = Lin.mm k (vecF (invN X)) (fun r m => toF (Gf.rep (Gf.nth X r) m)) i m := Lin.mm_congr k (fun _ _ => rfl) (fun r _ => by
   have := shares_times_powers (upToL k) (upToL_bytes k hk) (upToL_nodup k) (Gf.nth X r) m (hX r) (by rw [upToL_length]; exact hm)
   rw [upToL_length] at this
   rw [<- this]
   exact Lin.fsum_congr fun t ht => by rw [nth_upTo k t ht]; rfl)
  rw [e2]
  have := shares_times_powers X hX hn i m (by omega) (by rw [hl]; exact hm)
  rw [hl] at this
  exact this
 intro i j hi hj
 have e3 : Lin.mm k (Lin.mm k (vecF (invN X)) (sprX k X)) Lin.one i j = Lin.mm k (Lin.mm k (vecF (invN X)) (sprX k X)) (Lin.mm k (vecF Gf.rep) y) i j := Lin.mm_congr k (fun _ _ => rfl) (fun m hm => (hy' m j hm hj).symm)
 rw [Lin.mm_one k _ i j hj] at e3
 rw [e3, <- Lin.mm_assoc]
 have e4 : Lin.mm k (Lin.mm k (Lin.mm k (vecF (invN X)) (sprX k X)) (vecF Gf.rep)) y i j = Lin.mm k (vecF Gf.rep) y i j := Lin.mm_congr k (fun m hm => e1 i m hi hm) (fun _ _ => rfl)
 rw [e4]
 exact hy' i j hi hj
theorem inv_unique {X : List Nat} {k : Nat} (hX : Gf.Bytes X) (hn : X.Nodup) (hl : X.length = k) (hk : k <= 256) {x : Nat -> Nat -> Nat} (hx : ∀ i j, x i j < 256) (h : ∀ i j, i < k -> j < k -> Lin.mm k (vecF x) (sprX k X) i j = Lin.one i j) : ∀ i j, i < k -> j < k -> x i j = invN X i j := by
 have hr := Lin.right_of_left (inv_left hX hn hl hk)
 intro i j hi hj
 refine toF_inj (hx i j) (invN_lt X i j) ?_
 have e1 : Lin.mm k (vecF x) Lin.one i j = Lin.mm k (vecF x) (Lin.mm k (sprX k X) (vecF (invN X))) i j := Lin.mm_congr k (fun _ _ => rfl) (fun m hm => (hr m j hm hj).symm)
 rw [Lin.mm_one k _ i j hj, <- Lin.mm_assoc] at e1
 have e2 : Lin.mm k (Lin.mm k (vecF x) (sprX k X)) (vecF (invN X)) i j = Lin.mm k Lin.one (vecF (invN X)) i j := Lin.mm_congr k (fun m hm => h i m hi hm) (fun _ _ => rfl)
 rw [e2, Lin.one_mm k _ i j hi] at e1
 exact e1
theorem toF_rsum {f val : Nat -> Nat -> Nat} (hf : ∀ i j, f i j < 256) (hv : ∀ j c, val j c < 256) (i c : Nat) : ∀ m, toF (rsumN f val i c m) = Lin.fsum m (fun j => Lin.mu (toF (f i j)) (toF (val j c)))
 | 0 => rfl
 | m + 1 => by
  show toF (rsumN f val i c m ^^^ Gf.mul (f i m) (val m c)) = Lin.ad (Lin.fsum m _) _
  rw [toF_ad (rsumN_lt hf i c m) (Gf.mul_lt (hf i m) _), toF_rsum hf hv i c m, toF_mu (hf i m) (hv m c)]
theorem told {X : List Nat} {k : Nat} (hX : Gf.Bytes X) (hn : X.Nodup) (hl : X.length = k) (hk : k <= 256) {u v : Nat -> Nat -> Nat} (hu : ∀ j c, u j c < 256) (hvb : ∀ j c, v j c < 256) (c : Nat) (hv : ∀ i, i < k -> v i c = rsumN (facN k) u (Gf.nth X i) c k) (m : Nat) (hm : m < k) :
 rsumN (invN X) v m c k = u m c := by
 refine toF_inj (rsumN_lt (invN_lt X) _ _ _) (hu m c) ?_
 rw [toF_rsum (invN_lt X) hvb]
 have e1 : Lin.fsum k (fun j => Lin.mu (toF (invN X m j)) (toF (v j c))) = Lin.mm k (vecF (invN X)) (Lin.mm k (sprX k X) (fun j _ => toF (u j c))) m 0 := Lin.fsum_congr fun j hj => by
  rw [hv j hj, toF_rsum (facN_lt k) hu]
  rfl
 rw [e1, <- Lin.mm_assoc]
 have e2 : Lin.mm k (Lin.mm k (vecF (invN X)) (sprX k X)) (fun j _ => toF (u j c)) m 0 = Lin.mm k Lin.one (fun j _ => toF (u j c)) m 0 := Lin.mm_congr k (fun t ht => inv_left hX hn hl hk m t hm ht) (fun _ _ => rfl)
 rw [e2, Lin.one_mm k _ m 0 hm]
theorem rsumN_congr {f g val : Nat -> Nat -> Nat} {i c : Nat} : ∀ k, (∀ j, j < k -> f i j = g i j) -> rsumN f val i c k = rsumN g val i c k
 | 0, _ => rfl
 | k + 1, h => by
  show rsumN f val i c k ^^^ _ = rsumN g val i c k ^^^ _
  rw [rsumN_congr k (fun j hj => h j (by omega)), h k (by omega)]
def catN (g : Nat -> Nat -> Nat) (wd m : Nat) : List Nat := (List.range m).flatMap fun i => rowFn wd (g i)
theorem catN_succ (g : Nat -> Nat -> Nat) (wd m : Nat) : catN g wd (m + 1) = catN g wd m ++ rowFn wd (g m) := by simp [catN, List.range_succ]
theorem catN_length (g : Nat -> Nat -> Nat) (wd : Nat) : ∀ m, (catN g wd m).length = m * wd
 | 0 => by rw [Nat.zero_mul]; rfl
 | m + 1 => by rw [catN_succ, List.length_append, catN_length g wd m, rowFn_length, Nat.succ_mul]
theorem nth_append_lt {l r : List Nat} {p : Nat} (h : p < l.length) : Gf.nth (l ++ r) p = Gf.nth l p := by
 show (l ++ r).getD p 0 = l.getD p 0
 rw [List.getD_eq_getElem?_getD, List.getD_eq_getElem?_getD, List.getElem?_append_left h]
theorem nth_append_ge {l r : List Nat} {p : Nat} (h : l.length <= p) : Gf.nth (l ++ r) p = Gf.nth r (p - l.length) := by
 show (l ++ r).getD p 0 = r.getD (p - l.length) 0
 rw [List.getD_eq_getElem?_getD, List.getD_eq_getElem?_getD, List.getElem?_append_right h]
theorem catN_nth (g : Nat -> Nat -> Nat) (wd : Nat) : ∀ m p, p < m * wd -> Gf.nth (catN g wd m) p = g (p / wd) (p % wd)
 | 0, p, h => by rw [Nat.zero_mul] at h; exact absurd h (Nat.not_lt_zero _)
 | m + 1, p, h => by
  rw [catN_succ]
  by_cases hp : p < m * wd
  ·rw [nth_append_lt (by rw [catN_length]; exact hp)]
   exact catN_nth g wd m p hp
  ·have hw : 0 < wd := by
    rcases Nat.eq_zero_or_pos wd with e | e
    ·rw [e, Nat.mul_zero] at h; exact absurd h (Nat.not_lt_zero _)
    ·exact e
   have hlt : p - m * wd < wd := by rw [Nat.succ_mul] at h; omega
   have hd : p = wd * m + (p - m * wd) := by rw [Nat.mul_comm wd m]; omega
   have h1 : p / wd = m := by
    have h0 : (wd * m + (p - m * wd)) / wd = m := by rw [Nat.mul_add_div hw, Nat.div_eq_of_lt hlt, Nat.add_zero]
    rw [<- hd] at h0
    exact h0
   have h2 : p % wd = p - m * wd := by
    have := Nat.mod_add_div p wd
    rw [h1, Nat.mul_comm wd m] at this
    omega
   rw [nth_append_ge (by rw [catN_length]; omega), catN_length, nth_rowFn _ _ _ hlt, h1, h2]
theorem catN_take (g : Nat -> Nat -> Nat) (wd m size : Nat) (h : size <= m * wd) : (catN g wd m).take size = rowFn size fun p => g (p / wd) (p % wd) := by
 have hl : ((catN g wd m).take size).length = size := by rw [List.length_take, catN_length]; omega
 refine nth_ext (by rw [hl, rowFn_length]) fun p hp => ?_
 rw [hl] at hp
 rw [nth_rowFn _ _ p hp, <- catN_nth g wd m p (by omega)]
 show ((catN g wd m).take size).getD p 0 = (catN g wd m).getD p 0
 rw [List.getD_eq_getElem?_getD, List.getD_eq_getElem?_getD, List.getElem?_take_of_lt hp]
def byteL (l : List Nat) : List UInt8 := l.map fun n => UInt8.ofNat n
theorem strOf_data (l : List Nat) : (strOf l).data.toList = byteL l := by
 unfold strOf byteL
 rw [strOfNums_data, List.map_map]
 rfl
theorem strOf_mk (l : List Nat) : strOf l = ⟨(byteL l).toArray⟩ := by
 unfold strOf strOfNums byteL
 rw [List.map_map]
 rfl
theorem join_empty (xs : List (List UInt8)) : Lib.join xs [] = xs.flatten := by
 cases xs with
 | nil => rfl
 | cons x r =>
  rw [Lib.join_cons]
  unfold Lib.joinTail
  simp
theorem join_rows (g : Nat -> Nat -> Nat) (wd m : Nat) : Lib.join (((List.range m).map fun i => strOf (rowFn wd (g i))).map (·.data.toList)) [] = byteL (catN g wd m) := by
 rw [join_empty, List.map_map]
 unfold catN byteL
 rw [List.map_flatMap, List.flatMap_def]
 congr 1
 exact List.map_congr_left fun i _ => strOf_data _
theorem strOf_take (l : List Nat) (size : Nat) : (⟨(byteL l).toArray⟩ : ByteArray).extract 0 size = strOf (l.take size) := by
 rw [ByteArray.extract_mk, strOf_mk]
 congr 2
 unfold byteL
 rw [List.drop_zero, Nat.sub_zero, List.map_take]
theorem wide_mul {k size : Nat} (hk : 1 <= k) : size <= k * wideN k size := by
 rcases Nat.lt_or_ge (wideN k size * k) size with h | h
 ·exact absurd (wideN_lt hk h) (Nat.lt_irrefl _)
 ·rw [Nat.mul_comm]; exact h
def atsN (so : List (Int × ByteArray)) : List Nat := so.map fun x => x.1.toNat
def txtN (so : List (Int × ByteArray)) : Nat -> Nat -> Nat := fun j c => Gf.nth (bytesOf (shAt so j).2) c
theorem txtN_lt (so : List (Int × ByteArray)) (j c : Nat) : txtN so j c < 256 := bytesOf_lt _ _
def decT (k size : Nat) (so : List (Int × ByteArray)) : ByteArray := strOf (rowFn size fun p => rsumN (invN (atsN so)) (txtN so) (p / wideN k size) (p % wideN k size) k)
theorem decT_size (k size : Nat) (so : List (Int × ByteArray)) : (decT k size so).size = size := by
 unfold decT
 rw [strOf_size, rowFn_length]
end Go.Proofs.YtobmckfcipeanaaGreatDoor
