/- For the law MatrixAny: rows that are picked; Booleans in a row of the call's own; numbers that came in. -/
import Derived.Test.YthokfjkgmopeoaaDoorSpreadW
namespace Go.Proofs.YthokfjkgmopeoaaDoor
open Go.RowKit
/-- Values of type E in a row of the call's own. -/
def OwnE (w : World) (E : TypeId) (B g r : Nat) (vf : Nat → Value) : Prop := w.ownsRow B E 1 (.slice (some ⟨g, 0, none⟩) r r) r ((List.range r).map vf)
theorem OwnE.made (w : World) (E : TypeId) (z : Value) (B r : Nat) (hB : B ≤ w.heap.size) (hr : r ≤ 1000000) : OwnE (w.alloc (.cells (madeCells #[z] r) E)) E B w.heap.size r (fun _ => z) := by
  have h := World.ownsRow_lit (base := B) (e := E) (size := 1) w (madeCells #[z] r) r hB (by unfold maxLen; omega) (by have := congrArg List.length (toList_madeCells_one z r); simpa using this)
  rw [toList_madeCells_one] at h
  unfold OwnE
  rw [List.map_const', List.length_range]
  exact h
theorem OwnE.cell {w : World} {E : TypeId} {B g r : Nat} {vf : Nat → Value} (h : OwnE w E B g r vf) (j : Nat) (hj : j < r) : w.cell? ⟨g, j, none⟩ = some (vf j) := by
  rw [World.ownsRow.cellAt (w := w) h j (by omega), List.getElem?_map, List.getElem?_range hj]
  rfl
theorem OwnE.free {w : World} {E : TypeId} {B g r : Nat} {vf : Nat → Value} (h : OwnE w E B g r vf) (j : Nat) : w.frozen? ⟨g, j, none⟩ = false := World.ownsRow.frozenAt (w := w) h j
theorem OwnE.set {w : World} {E : TypeId} {B g r : Nat} {vf : Nat → Value} (h : OwnE w E B g r vf) (j : Nat) (v : Value) : OwnE (w.setCell ⟨g, j, none⟩ v) E B g r (fun i => if i = j then v else vf i) := by
  have := (World.ownsRow.stored (w := w) h j v).1
  rw [map_range_set] at this
  exact this
theorem OwnE.kept {w w' : World} {E : TypeId} {B g r : Nat} {vf : Nat → Value} {row : Option Nat} (h : OwnE w E B g r vf) (hg : w.grownBy w' row) (hne : row ≠ some g) : OwnE w' E B g r vf :=
  World.ownsRow.kept h hg (Or.inr (fun e => hne e.symm))
theorem OwnE.congr {w : World} {E : TypeId} {B g r : Nat} {vf vg : Nat → Value} (h : OwnE w E B g r vf) (he : ∀ i, i < r → vf i = vg i) : OwnE w E B g r vg := by
  unfold OwnE
  rw [List.map_congr_left (g := vf) (fun i hi => (he i (List.mem_range.1 hi)).symm)]
  exact h
theorem OwnE.lt {w : World} {E : TypeId} {B g r : Nat} {vf : Nat → Value} (h : OwnE w E B g r vf) : B ≤ g ∧ g < w.heap.size := World.ownsRow.lt h g rfl
/-- In the world w the numbers l lie from p on. -/
def Ints (w : World) (p : Option Addr) (l : List Int) : Prop := l = [] ∨ ∃ b o, p = some ⟨b, o, none⟩ ∧ b < w.heap.size ∧ ∀ i, i < l.length → w.cell? ⟨b, o + i, none⟩ = some (.int .i64 (l.getD i 0))
theorem Ints.below {w w' : World} {p : Option Addr} {l : List Int} (h : Ints w p l) (hb : Below w.heap.size w w') : Ints w' p l := by
  rcases h with h | ⟨b, o, hp, hlt, hc⟩
  · exact Or.inl h
  · exact Or.inr ⟨b, o, hp, Nat.lt_of_lt_of_le hlt hb.size, fun i hi => (hb.cell (p := ⟨b, o + i, none⟩) hlt).trans (hc i hi)⟩
/-- Unlike ones among others: no more than those. -/
theorem length_le_of_subset : ∀ (l X : List Nat), l.Nodup → (∀ x ∈ l, x ∈ X) → l.length ≤ X.length
  | [], _, _, _ => Nat.zero_le _
  | a :: t, X, hn, hs => by
    have ha : a ∈ X := hs a (List.mem_cons_self ..)
    have hn' := List.nodup_cons.1 hn
    have := length_le_of_subset t (X.erase a) hn'.2 (fun x hx => (List.mem_erase_of_ne (fun e => hn'.1 (by rw [← e]; exact hx))).2 (hs x (List.mem_cons_of_mem _ hx)))
    rw [List.length_erase_of_mem ha] at this
    have hp := List.length_pos_of_mem ha
    simp only [List.length_cons]
    omega
/-- A row of Spread. -/
def sprRow (k x : Nat) : List Nat := rowFn k fun j => Gf.shareOf (upToL k) j x
theorem spread_rows {w : World} {gm n k : Nat} (h : Mat w (some ⟨gm, 0, none⟩) (spreadM k n)) (hn : 1 ≤ n) (hk : 1 ≤ k) : ∃ rb ro rc : Nat → Nat, gm < w.heap.size ∧ ∀ i, i < n → w.cell? ⟨gm, i, none⟩ = some (.slice (some ⟨rb i, ro i, none⟩) k (rc i)) ∧ Seg w (some ⟨rb i, ro i, none⟩) (sprRow k i) := by
  have hf : spreadM k n = matFn n k (fun i j => Gf.shareOf (upToL k) j i) := rfl
  have h1 : ∀ i, i < n → ∃ b1 o1 c, w.cell? ⟨gm, i, none⟩ = some (.slice (some ⟨b1, o1, none⟩) k c) ∧ Seg w (some ⟨b1, o1, none⟩) (sprRow k i) := fun i hi => by
    rw [hf] at h
    have hr : rowOf (matFn n k fun i j => Gf.shareOf (upToL k) j i) i = sprRow k i := rowOf_matFn n k _ i hi
    obtain ⟨b, o, b1, o1, c, hp, _, hb1, h2, h3⟩ := h.row (i := i) (by rw [matFn_length]; exact hi) (by rw [hr]; unfold sprRow; rw [rowFn_length]; omega)
    injection hp with hp
    injection hp with e1 e2 _
    subst e1 e2
    rw [hr] at h2 h3
    have hl : (sprRow k i).length = k := rowFn_length _ _
    rw [hl, Nat.zero_add] at h2
    exact ⟨b1, o1, c, h2, ⟨rowFn_bytes _ _ (fun j => Gf.shareOf_lt _ _ _), Or.inr ⟨b1, o1, rfl, hb1, h3⟩⟩⟩
  have h2 : ∀ i, ∃ t : Nat × Nat × Nat, i < n → w.cell? ⟨gm, i, none⟩ = some (.slice (some ⟨t.1, t.2.1, none⟩) k t.2.2) ∧ Seg w (some ⟨t.1, t.2.1, none⟩) (sprRow k i) := fun i => by
    by_cases hi : i < n
    · obtain ⟨b1, o1, c, h3⟩ := h1 i hi
      exact ⟨(b1, o1, c), fun _ => h3⟩
    · exact ⟨(0, 0, 0), fun h => absurd h hi⟩
  refine ⟨fun i => (Classical.choose (h2 i)).1, fun i => (Classical.choose (h2 i)).2.1, fun i => (Classical.choose (h2 i)).2.2, ?_, fun i hi => Classical.choose_spec (h2 i) hi⟩
  obtain ⟨_, _, _, h3, _⟩ := h1 0 (by omega)
  exact lt_of_cell h3
/-- The rows that were picked so far: those of X. -/
structure Picked (w : World) (B n k : Nat) (rv : Nat → Value) (v : Value) (X : List Nat) : Prop where
  own : OwnV w B 48 v (X.map rv)
  form : ∃ p c, v = .slice p X.length c
  nd : X.Nodup
  lt : ∀ x ∈ X, x < n
  le : X.length ≤ k
theorem Picked.kept {w w' : World} {B n k : Nat} {rv : Nat → Value} {v : Value} {X : List Nat} {row : Option Nat} (h : Picked w B n k rv v X) (hg : w.grownBy w' row) (hne : ∀ g, row = some g → g < B) : Picked w' B n k rv v X := by
  refine ⟨h.own.kept hg ?_, h.form, h.nd, h.lt, h.le⟩
  cases hv : v.ownBlock with
  | none => exact Or.inl rfl
  | some g =>
    refine Or.inr (fun e => ?_)
    have := h.own.block hv
    have := hne g e.symm
    omega
theorem Picked.snoc {w w' : World} {B n k : Nat} {rv : Nat → Value} {v v' : Value} {X : List Nat} {x : Nat} (h : Picked w B n k rv v X) (hx : x < n) (hnx : x ∉ X) (hlt : X.length < k) (hV : OwnV w' B 48 v' (X.map rv ++ [rv x])) : Picked w' B n k rv v' (X ++ [x]) := by
  have hm : (X ++ [x]).map rv = X.map rv ++ [rv x] := by simp
  refine ⟨by rw [hm]; exact hV, ?_, ?_, ?_, by rw [List.length_append, List.length_singleton]; omega⟩
  · rcases hV.cells with ⟨_, h0⟩ | ⟨g, cap, hv, _⟩
    · exact absurd h0 (by simp)
    · exact ⟨some ⟨g, 0, none⟩, cap, by rw [hv]; simp⟩
  · rw [List.nodup_append]
    refine ⟨h.nd, by simp, ?_⟩
    intro a ha b hb e
    rw [List.mem_singleton.1 hb] at e
    exact hnx (by rw [← e]; exact ha)
  · intro y hy
    rcases List.mem_append.1 hy with hy | hy
    · exact h.lt y hy
    · rw [List.mem_singleton.1 hy]; exact hx
theorem Picked.mat {w : World} {B n k : Nat} {rb ro rc : Nat → Nat} {v : Value} {X : List Nat} (h : Picked w B n k (fun x => .slice (some ⟨rb x, ro x, none⟩) k (rc x)) v X) (hX : 0 < X.length) (hs : ∀ x, x < n → Seg w (some ⟨rb x, ro x, none⟩) (sprRow k x)) : ∃ p c, v = .slice p X.length c ∧ Mat w p (X.map (sprRow k)) := by
  rcases h.own.cells with ⟨_, h0⟩ | ⟨g, cap, hv, _, hg, hc⟩
  · have := congrArg List.length h0
    simp at this
    rw [this] at hX
    exact absurd hX (Nat.lt_irrefl _)
  · refine ⟨some ⟨g, 0, none⟩, cap, by rw [hv]; simp, Or.inr ⟨g, 0, rfl, hg, fun i hi => ?_⟩⟩
    rw [List.length_map] at hi
    have hxi : X[i]? = some X[i] := List.getElem?_eq_getElem hi
    have hr : rowOf (X.map (sprRow k)) i = sprRow k X[i] := by unfold rowOf; rw [List.getD_eq_getElem?_getD, List.getElem?_map, hxi]; rfl
    have hl : (sprRow k X[i]).length = k := rowFn_length _ _
    rw [hr, hl, Nat.zero_add]
    exact ⟨_, _, hc i _ (by rw [List.getElem?_map, hxi]; rfl), hs _ (h.lt _ (List.getElem_mem hi)), fun e => by cases e⟩
theorem picked_isMat {k : Nat} {X : List Nat} (hk1 : 1 ≤ k) (hk : k ≤ 12) (hX : X.length = k) : IsMat (X.map (sprRow k)) := by
  have hl : ∀ i, i < X.length → (rowOf (X.map (sprRow k)) i).length = k := fun i hi => by
    unfold rowOf
    rw [List.getD_eq_getElem?_getD, List.getElem?_map, List.getElem?_eq_getElem hi]
    exact rowFn_length _ _
  refine ⟨by rw [List.length_map]; omega, by rw [List.length_map]; omega, fun i hi => ?_⟩
  rw [List.length_map] at hi
  rw [hl i hi, hl 0 (by omega)]
  exact ⟨hk1, by omega, rfl⟩
theorem picked_bytes (k : Nat) (X : List Nat) : BytesM (X.map (sprRow k)) := fun i => by
  by_cases hi : i < X.length
  · have : rowOf (X.map (sprRow k)) i = sprRow k X[i] := by unfold rowOf; rw [List.getD_eq_getElem?_getD, List.getElem?_map, List.getElem?_eq_getElem hi]; rfl
    rw [this]
    exact rowFn_bytes _ _ (fun j => Gf.shareOf_lt _ _ _)
  · intro j
    have : rowOf (X.map (sprRow k)) i = [] := by unfold rowOf; rw [List.getD_eq_getElem?_getD, List.getElem?_eq_none (by rw [List.length_map]; omega)]; rfl
    rw [this]
    show ([] : List Nat).getD j 0 < 256
    simp
/-- VANDERMONDE: any k rows have full rank. -/
theorem picked_rank {n k : Nat} {X : List Nat} (hn : n ≤ 12) (hX : X.length = k) (hnd : X.Nodup) (hlt : ∀ x ∈ X, x < n) (hk : k ≤ n) : Lin.IsRank k k (vec (X.map (sprRow k))) k := by
  have hb : Gf.Bytes X := fun i => by
    by_cases hi : i < X.length
    · rw [Gf.nth_getElem X i hi]; have := hlt _ (List.getElem_mem hi); omega
    · show X.getD i 0 < 256
      rw [List.getD_eq_getElem?_getD, List.getElem?_eq_none (by omega)]; decide
  have h := shares_indep (upToL k) X (upToL_bytes k (by omega)) (upToL_nodup k) hb hnd (by rw [upToL_length]; exact hX)
  rw [upToL_length, hX] at h
  refine rank_of_indep ?_
  intro c hc
  refine h c (fun j hj => ?_)
  rw [← hc j hj]
  refine Lin.fsum_congr fun r hr => ?_
  have hr' : r < X.length := by omega
  have e1 : rowOf (X.map (sprRow k)) r = sprRow k X[r] := by unfold rowOf; rw [List.getD_eq_getElem?_getD, List.getElem?_map, List.getElem?_eq_getElem hr']; rfl
  show Lin.mu (c r) (toF (Gf.shareOf (upToL k) j (Gf.nth X r))) = Lin.mu (c r) (toF (Gf.nth (rowOf (X.map (sprRow k)) r) j))
  rw [e1, Gf.nth_getElem X r hr']
  unfold sprRow
  rw [nth_rowFn _ _ j hj]
theorem boolinfo : (Tryd.prog.info? 4).map (fun i => (i.zero, i.size, i.bytes)) = some (some (.bool false), 1, 1) := by kernel_rfl
end Go.Proofs.YthokfjkgmopeoaaDoor
