/- Matrices in rows of a call's own. -/
import Derived.Test.YthokfjkgmopeoaaDoorMatI
import Derived.Test.YthokfjkgmopeoaaDoorAppV
namespace Go.Proofs.YthokfjkgmopeoaaDoor
open Go.RowKit
theorem Seg.kept {w w' : World} {q : Option Addr} {l : List Nat} {row : Option Nat} (h : Seg w q l) (hg : w.grownBy w' row) (hne : ∀ ad, q = some ad → some ad.block ≠ row) : Seg w' q l := by
  refine ⟨h.lt, ?_⟩
  rcases h.cells with h | ⟨b, o, hp, hlt, hc⟩
  · exact Or.inl h
  · refine Or.inr ⟨b, o, hp, Nat.lt_of_lt_of_le hlt hg.size, fun i hi => ?_⟩
    exact (World.cell?_of_block (a := ⟨b, o + i, none⟩) (hg.block b hlt (hne _ hp))).trans (hc i hi)
/-- v owns a slice of rows that lie in rows of their own, all from block B on. -/
def OwnMatV (B : Nat) (w : World) (e : TypeId) (v : Value) (vs : List Value) (M : List (List Nat)) : Prop :=
  OwnV w B e v vs ∧ vs.length = M.length ∧ ∀ i, i < M.length → ∃ q c, vs[i]? = some (.slice q (rowOf M i).length c) ∧ Seg w q (rowOf M i) ∧ (q = none → c = 0) ∧ ∀ ad, q = some ad → B ≤ ad.block ∧ ad.block < w.heap.size ∧ v.ownBlock ≠ some ad.block
def OwnMat (B : Nat) (w : World) (e : TypeId) (v : Value) (M : List (List Nat)) : Prop := ∃ vs, OwnMatV B w e v vs M
theorem OwnMat.nil (B : Nat) (w : World) (e : TypeId) : OwnMat B w e (.slice none 0 0) [] := ⟨[], OwnV.nil w B e, rfl, fun _ hi => absurd hi (Nat.not_lt_zero _)⟩
theorem Own.form {w : World} {B : Nat} {e : TypeId} {v : Value} {l : List Nat} (h : Own w B e v l) (hl : Gf.Bytes l) : ∃ q c, v = .slice q l.length c ∧ Seg w q l ∧ (q = none → c = 0) ∧ ∀ ad, q = some ad → B ≤ ad.block ∧ ad.block < w.heap.size := by
  rcases h.2 with ⟨rfl, h0⟩ | ⟨g, cap, cur, rfl, hb, hg, hnc, hcm, hcs, htake⟩
  · have : l = [] := List.length_eq_zero_iff.1 h0
    subst this
    exact ⟨none, 0, rfl, ⟨hl, Or.inl rfl⟩, fun _ => rfl, fun ad h => by cases h⟩
  · refine ⟨some ⟨g, 0, none⟩, cap, rfl, ?_, (fun h => by cases h), (fun ad h => by injection h with h; subst h; exact ⟨hb, (Array.getElem?_eq_some_iff.1 hg).1⟩)⟩
    obtain ⟨p, c, hv, hs⟩ := h.seg hl
    injection hv with h1 h2 h3
    subst h1
    exact hs
/-- One row more. -/
theorem OwnMatV.snoc {B : Nat} {w w1 w3 : World} {T E : TypeId} {v v' r : Value} {vs : List Value} {M : List (List Nat)} {row : List Nat} {o : Obj} (h : OwnMatV B w T v vs M) (hB : B ≤ w.heap.size) (hr : Own w1 w.heap.size E r row) (hrow : Gf.Bytes row) (hb : Below w.heap.size w w1)
    (hv : OwnV w3 B T v' (vs ++ [r]))
    (hg : (w1.alloc o).grownBy w3 v.ownBlock) (hw : v'.ownBlock = v.ownBlock ∨ v'.ownBlock = some (w1.alloc o).heap.size) : OwnMatV B w3 T v' (vs ++ [r]) (M ++ [row]) := by
  obtain ⟨hvs, hlen, hall⟩ := h
  have hz := hb.size
  have hsz : (w1.alloc o).heap.size = w1.heap.size + 1 := by simp
  have hvb : ∀ k, v.ownBlock = some k → k < w.heap.size := fun k hk => (hvs.block hk).2
  have hg1 : w1.grownBy w3 v.ownBlock := ⟨hg.os, hg.tape, hg.output, by have := hg.size; omega, fun k hk hne => (hg.block k (by omega) hne).trans (Below.heap_alloc w1 o k hk)⟩
  refine ⟨hv, by simp [hlen], fun i hi => ?_⟩
  rw [List.length_append, List.length_singleton] at hi
  by_cases hlt : i < M.length
  · obtain ⟨q, c, h1, h2, h3, h4⟩ := hall i hlt
    rw [rowOf_append_lt M row i hlt]
    refine ⟨q, c, by rw [List.getElem?_append_left (by omega)]; exact h1, (h2.below hb).kept hg1 (fun ad hq => fun e => (h4 ad hq).2.2 e.symm), h3, fun ad hq => ?_⟩
    have := h4 ad hq
    refine ⟨this.1, by have := hg1.size; omega, ?_⟩
    rcases hw with hw | hw
    · rw [hw]; exact this.2.2
    · rw [hw, hsz]; intro e; have := Option.some.inj e; omega
  · obtain rfl : i = M.length := by omega
    rw [rowOf_append_eq]
    obtain ⟨q, c, h1, h2, h3, h4⟩ := hr.form hrow
    refine ⟨q, c, by rw [List.getElem?_append_right (by omega), hlen, Nat.sub_self, h1]; rfl, h2.kept hg1 (fun ad hq => ?_), h3, fun ad hq => ?_⟩
    · have := h4 ad hq
      intro e
      have := hvb _ e.symm
      omega
    · have := h4 ad hq
      refine ⟨by omega, by have := hg1.size; omega, ?_⟩
      rcases hw with hw | hw
      · rw [hw]; intro e; have := hvb _ e; omega
      · rw [hw, hsz]; intro e; have := Option.some.inj e; omega
theorem OwnMat.mat {B : Nat} {w : World} {T : TypeId} {v : Value} {M : List (List Nat)} (h : OwnMat B w T v M) : ∃ p c, v = .slice p M.length c ∧ Mat w p M := by
  obtain ⟨vs, hvs, hlen, hall⟩ := h
  rcases hvs.cells with ⟨rfl, rfl⟩ | ⟨g, cap, rfl, hB, hg, hcell⟩
  · have : M = [] := List.length_eq_zero_iff.1 (by simpa using hlen.symm)
    subst this
    exact ⟨none, 0, rfl, Or.inl rfl⟩
  · refine ⟨some ⟨g, 0, none⟩, cap, by rw [hlen], Or.inr ⟨g, 0, rfl, hg, fun i hi => ?_⟩⟩
    obtain ⟨q, c, h1, h2, h3, _⟩ := hall i hi
    refine ⟨q, c, ?_, h2, h3⟩
    rw [Nat.zero_add]
    exact hcell i _ h1
theorem rowinfo : (Tryd.prog.info? 48).map (fun i => (i.zero, i.size, i.bytes)) = some (some (.slice none 0 0), 1, 24) := by kernel_rfl
end Go.Proofs.YthokfjkgmopeoaaDoor
