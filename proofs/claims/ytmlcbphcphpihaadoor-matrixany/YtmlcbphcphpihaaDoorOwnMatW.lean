/- The statements' own copies of matrices: new memory, the same rows. -/
import Derived.Test.YtmlcbphcphpihaaDoorRefMatW
import Derived.Test.YtmlcbphcphpihaaDoorAppV
namespace Go.Proofs.YtmlcbphcphpihaaDoor
open Go.RowKit
theorem Seg.kept {w w' : World} {q : Option Addr} {l : List Nat} {row : Option Nat} (h : Seg w q l) (hg : w.grownBy w' row) (hne : ∀ ad, q = some ad → some ad.block ≠ row) : Seg w' q l := by
  refine ⟨h.lt, ?_⟩
  rcases h.cells with h | ⟨b, o, hp, hlt, hc⟩
  · exact Or.inl h
  · refine Or.inr ⟨b, o, hp, Nat.lt_of_lt_of_le hlt hg.size, fun i hi => ?_⟩
    exact (World.cell?_of_block (a := ⟨b, o + i, none⟩) (hg.block b hlt (hne _ hp))).trans (hc i hi)
/-- v owns a slice of rows that lie in rows of their own, all from block B on. -/
def OwnMatV (B : Nat) (w : World) (e : TypeId) (v : Value) (vs : List Value) (M : List (List Nat)) : Prop :=
  OwnV w B e v vs ∧ vs.length = M.length ∧ ∀ i, i < M.length → ∃ q c, vs[i]? = some (.slice q (rowOf M i).length c) ∧ Seg w q (rowOf M i) ∧ (q = none → c = 0) ∧ ∀ ad, q = some ad → B ≤ ad.block ∧ ad.block < w.heap.size ∧ v.ownBlock ≠ some ad.block
def OwnMat (B : Nat) (w : World) (e : TypeId) (v : Value) (M : List (List Nat)) : Prop := ∃ vs, OwnMatV B w e v vs M
theorem OwnMat.nil (B : Nat) (w : World) (e : TypeId) : OwnMat B w e (.slice none 0 0) [] := ⟨[], OwnV.nil w B e, rfl, fun _ hi => absurd hi (Nat.not_lt_zero _)⟩
theorem Own.form {w : World} {B : Nat} {e : TypeId} {v : Value} {l : List Nat} (h : Own w B e v l) (hl : Gf.Bytes l) : ∃ q c, v = .slice q l.length c ∧ Seg w q l ∧ (q = none → c = 0) ∧ ∀ ad, q = some ad → B ≤ ad.block ∧ ad.block < w.heap.size := by
  rcases h.2 with ⟨rfl, h0⟩ | ⟨g, cap, cur, rfl, hb, hg, hnc, hcm, hcs, htake⟩
  · have : l = [] := List.length_eq_zero_iff.1 h0
    subst this
    exact ⟨none, 0, rfl, ⟨hl, Or.inl rfl⟩, fun _ => rfl, fun ad h => by cases h⟩
  · refine ⟨some ⟨g, 0, none⟩, cap, rfl, ?_, (fun h => by cases h), (fun ad h => by injection h with h; subst h; exact ⟨hb, (Array.getElem?_eq_some_iff.1 hg).1⟩)⟩
    obtain ⟨p, c, hv, hs⟩ := h.seg hl
    injection hv with h1 h2 h3
    subst h1
    exact hs
/-- One row more. -/
theorem OwnMatV.snoc {B : Nat} {w w1 w3 : World} {T E : TypeId} {v v' r : Value} {vs : List Value} {M : List (List Nat)} {row : List Nat} {o : Obj} (h : OwnMatV B w T v vs M) (hB : B ≤ w.heap.size) (hr : Own w1 w.heap.size E r row) (hrow : Gf.Bytes row) (hb : Below w.heap.size w w1)
    (hv : OwnV w3 B T v' (vs ++ [r]))
    (hg : (w1.alloc o).grownBy w3 v.ownBlock) (hw : v'.ownBlock = v.ownBlock ∨ v'.ownBlock = some (w1.alloc o).heap.size) : OwnMatV B w3 T v' (vs ++ [r]) (M ++ [row]) := by
  obtain ⟨hvs, hlen, hall⟩ := h
  have hz := hb.size
  have hsz : (w1.alloc o).heap.size = w1.heap.size + 1 := by simp
  have hvb : ∀ k, v.ownBlock = some k → k < w.heap.size := fun k hk => (hvs.block hk).2
  have hg1 : w1.grownBy w3 v.ownBlock := ⟨hg.os, hg.tape, hg.output, by have := hg.size; omega, fun k hk hne => (hg.block k (by omega) hne).trans (Below.heap_alloc w1 o k hk)⟩
  refine ⟨hv, by simp [hlen], fun i hi => ?_⟩
  rw [List.length_append, List.length_singleton] at hi
  by_cases hlt : i < M.length
  · obtain ⟨q, c, h1, h2, h3, h4⟩ := hall i hlt
    rw [rowOf_append_lt M row i hlt]
    refine ⟨q, c, by rw [List.getElem?_append_left (by omega)]; exact h1, (h2.below hb).kept hg1 (fun ad hq => fun e => (h4 ad hq).2.2 e.symm), h3, fun ad hq => ?_⟩
    have := h4 ad hq
    refine ⟨this.1, by have := hg1.size; omega, ?_⟩
    rcases hw with hw | hw
    · rw [hw]; exact this.2.2
    · rw [hw, hsz]; intro e; have := Option.some.inj e; omega
  · obtain rfl : i = M.length := by omega
    rw [rowOf_append_eq]
    obtain ⟨q, c, h1, h2, h3, h4⟩ := hr.form hrow
    refine ⟨q, c, by rw [List.getElem?_append_right (by omega), hlen, Nat.sub_self, h1]; rfl, h2.kept hg1 (fun ad hq => ?_), h3, fun ad hq => ?_⟩
    · have := h4 ad hq
      intro e
      have := hvb _ e.symm
      omega
    · have := h4 ad hq
      refine ⟨by omega, by have := hg1.size; omega, ?_⟩
      rcases hw with hw | hw
      · rw [hw]; intro e; have := hvb _ e; omega
      · rw [hw, hsz]; intro e; have := Option.some.inj e; omega
theorem OwnMat.mat {B : Nat} {w : World} {T : TypeId} {v : Value} {M : List (List Nat)} (h : OwnMat B w T v M) : ∃ p c, v = .slice p M.length c ∧ Mat w p M := by
  obtain ⟨vs, hvs, hlen, hall⟩ := h
  rcases hvs.cells with ⟨rfl, rfl⟩ | ⟨g, cap, rfl, hB, hg, hcell⟩
  · have : M = [] := List.length_eq_zero_iff.1 (by simpa using hlen.symm)
    subst this
    exact ⟨none, 0, rfl, Or.inl rfl⟩
  · refine ⟨some ⟨g, 0, none⟩, cap, by rw [hlen], Or.inr ⟨g, 0, rfl, hg, fun i hi => ?_⟩⟩
    obtain ⟨q, c, h1, h2, h3, _⟩ := hall i hi
    refine ⟨q, c, ?_, h2, h3⟩
    rw [Nat.zero_add]
    exact hcell i _ h1
theorem rowinfo : (Tryd.prog.info? 39).map (fun i => (i.zero, i.size, i.bytes)) = some (some (.slice none 0 0), 1, 24) := by kernel_rfl
set_option maxRecDepth 10000 in
set_option maxHeartbeats 2000000 in
theorem own_any (p : Option Addr) (M : List (List Nat)) (cap : Nat) (w : World) (hl : M.length ≤ 1000) (hm : ∀ i, (rowOf M i).length ≤ 1000) (h : Mat w p M) :
    Calls Tryd.prog 12 #[.slice p M.length cap] w fun e w' => (∃ p' c', e = .returned (.slice p' M.length c') ∧ Mat w' p' M) ∧ Below w.heap.size w w' := by
  obtain ⟨i0, hi0, hz0, hz1, hz2⟩ := info_parts u8info
  obtain ⟨i1, hi1, hy0, hy1, hy2⟩ := info_parts rowinfo
  go_enter Tryd.func12, Tryd.ntmps12
  go_wp2
  go_loopw [3, 4] (fun v j wr => ∃ k : Nat, k ≤ M.length ∧ j = .int .i64 k ∧ OwnMat w.heap.size wr 39 v (M.take k) ∧ Below w.heap.size w wr) (fun _ j _ => M.length - (intOf j).toNat)
  case atStart => exact ⟨0, by omega, rfl, by rw [List.take_zero]; exact OwnMat.nil _ _ _, Below.refl _ _⟩
  case round =>
    obtain ⟨k, hk, rfl, hO, hB⟩ := hrel
    have HO : Hid (OwnMat w.heap.size wr 39 u3 (M.take k)) := hO
    have HB : Hid (Below w.heap.size w wr) := hB
    have hbz : w.heap.size ≤ wr.heap.size := hB.size
    clear hO hB
    by_cases hlt : k < M.length
    · rcases h.below HB.out with h' | ⟨b, o, rfl, hb, hc⟩
      · rw [h'] at hlt; simp at hlt
      obtain ⟨q, c, hc1, hs1, hn1⟩ := hc k hlt
      have hmk := hm k
      have HS : Hid (Seg wr q (rowOf M k)) := hs1
      have HQ : Hid (q = none → c = 0) := hn1
      have HT : Hid (M.take (k + 1) = M.take k ++ [rowOf M k]) := by
        show _ = _
        rw [List.take_succ_eq_append_getElem hlt]
        unfold rowOf
        rw [List.getD_eq_getElem?_getD, List.getElem?_eq_getElem hlt]
        rfl
      have HM : Hid ((M.take k).length = k) := by show _ = _; rw [List.length_take]; omega
      clear hc hs1 hn1 hm
      generalize rowOf M k = row at hc1 hmk HS HT
      obtain ⟨vs, hmv⟩ := HO.out
      have HMV : Hid (OwnMatV w.heap.size wr 39 u3 vs (M.take k)) := hmv
      have HV : Hid (OwnV wr w.heap.size 39 u3 vs) := hmv.1
      have HVL : Hid (vs.length = k) := hmv.2.1.trans HM.out
      clear hmv
      go_wp2_with (first | (at_builtin; refine wpList_copy_row rfl (.tmp 13) (.tmp 17) 39 rfl 5 i0 Tryd.underlying39 hi0 hz0 hz1 hz2 rfl q row c rfl HS.out (by omega) HQ.out ?_; intro r w1 hr hb1; obtain ⟨q', c', rfl, _, _, _⟩ := hr.form HS.out.lt) | (at_builtin; refine wpList_append_val rfl (.tmp 12) (.tmp 19) 22 rfl w.heap.size 39 i1 (.slice none 0 0) 24 Tryd.underlying22 hi1 hy0 rfl hy1 hy2 (by decide) u3 vs rfl (((HV.out.kept (row := none) ⟨hb1.os, hb1.tape, hb1.output, hb1.size, fun k hk _ => hb1.block k hk⟩ (by cases hv : u3.ownBlock <;> simp))).kept (World.grownBy_alloc w1 _ none) (by cases hv : u3.ownBlock <;> simp)) ⟨w1.heap.size, 0, none⟩ 1 (.slice q' row.length c') rfl rfl (by simp) (by have := HVL.out; omega) (by have := hb1.size; simp; omega) ?_; intro v' w3 hV' hg' hw'))
      have hmv3 := HMV.out.snoc hbz hr HS.out.lt hb1 hV' hg' hw'
      have hb3 : Below w.heap.size w w3 := ((HB.out.trans (hb1.mono hbz)).alloc (by have := hb1.size; omega) _).grown hg' (by have := hb1.size; simp; omega) (fun k' hk' => (HV.out.block hk').1)
      go_roundw
      case rel => exact ⟨k + 1, by omega, by go_num, ⟨_, by rw [HT.out]; exact hmv3⟩, hb3⟩
      case measure => simp [intOf]; omega
    · have hke : k = M.length := by omega
      subst hke
      have HO' : Hid (OwnMat w.heap.size wr 39 u3 M) := by have := HO.out; rw [List.take_length] at this; exact this
      obtain ⟨p', c', hv, hmat⟩ := HO'.out.mat
      subst hv
      clear HO HO'
      go_wp2
      go_ret
      exact ⟨⟨p', c', rfl, hmat⟩, HB.out⟩
end Go.Proofs.YtmlcbphcphpihaaDoor
