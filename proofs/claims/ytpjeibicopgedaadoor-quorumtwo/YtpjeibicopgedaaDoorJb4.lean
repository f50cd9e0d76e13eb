/- Texts laid together. -/
import Derived.Test.YtpjeibicopgedaaDoorJb3
import Derived.OpenShut
import Derived.ChangeOld
import Derived.Deep.SlicePairs
import Derived.Deep.Strs
import Derived.Lib.SmallJoins
import Derived.Deep.OwnRows
import Derived.Deep.Heap
namespace Go.Proofs.YtpjeibicopgedaaDoor
open Go.RowKit
section
open Go.ChangeShapes Go.WideShapes Go.ChangeAt Go.RowKit
theorem cfgLaidOut : laidOutB Tryd.prog = true := by kernel_rfl
theorem qCfgFields : ∃ f0 f1 f2, Tryd.prog.underlying 24 = some (.struct #[f0, f1, f2]) ∧ f0.offset = 0 ∧ f1.offset = 1 ∧ f2.offset = 2 ∧ f0.type = 3 ∧ f1.type = 3 ∧ f2.type = 22 := ⟨_, _, _, Tryd.underlying24, rfl, rfl, rfl, rfl, rfl, rfl⟩
theorem qCellsInt : Tryd.prog.cellsOf 3 = 1 := by kernel_rfl
theorem qCellsStrs : Tryd.prog.cellsOf 22 = 1 := by kernel_rfl
theorem qCellsCfg : Tryd.prog.cellsOf 24 = 3 := by kernel_rfl
set_option maxRecDepth 100000 in
/-- Texts that came in. -/
theorem strs_arg8 {H : Type} {enc : TypeId × Value → H} {W : World} {fuel : Nat} {v : Value} {y : DataW H × List MemPlace} (h : DataW.trod enc Tryd.prog W 0 (fun _ => true) true fuel 22 [v] = some y) : ∃ p l cap, v = .slice p l.length cap ∧ TxsIn W l p cap := by
  rcases Deep.open_strs Tryd.underlying22 Tryd.underlying9 (by kernel_rfl) h with ⟨hcs, _⟩ | ⟨a, len0, cap0, m, Sx, hcs, _, hle, hcm, hm, hd, hx⟩
  · simp at hcs
    subst hcs
    exact ⟨none, [], 0, rfl, ⟨Or.inl rfl, Nat.le_refl _, fun _ => ⟨rfl, rfl⟩, Nat.zero_le _, fun x hx => by cases hx⟩⟩
  · simp at hcs
    subst hcs
    have hlm : len0 ≤ m := by rw [hm]; split <;> omega
    have hlen : ((List.range len0).map Sx).length = len0 := by simp
    have hat : ∀ i, i < len0 → txt ((List.range len0).map Sx) i = Sx i := fun i hi => by
      rw [txt_getElem _ i (by rw [hlen]; exact hi)]
      simp
    refine ⟨some a, (List.range len0).map Sx, cap0, by rw [hlen], ⟨?_, by rw [hlen]; exact hle, (fun e => by cases e), by rw [hlen]; omega, fun x hxm => ?_⟩⟩
    · by_cases h0 : len0 = 0
      · exact Or.inl (List.length_eq_zero_iff.1 (by rw [hlen]; exact h0))
      · have hx0 := (hx 0 (by omega)).1
        obtain ⟨b, off, sp⟩ := a
        have hsp : sp = none := by
          cases sp with
          | none => rfl
          | some q =>
            exfalso
            simp [Addr.add, World.cell?] at hx0
            revert hx0
            split <;> intro h9 <;> cases h9
        subst hsp
        refine Or.inr ⟨b, off, rfl, ?_, fun i hi => ?_⟩
        · rw [Addr.add_lit] at hx0
          rcases Nat.lt_or_ge b W.heap.size with h' | h'
          · exact h'
          · simp [World.cell?, Array.getElem?_eq_none h'] at hx0
        · rw [hlen] at hi
          have := (hx i (by omega)).1
          rw [Addr.add_lit] at this
          rw [hat i hi]
          exact this
    · obtain ⟨i, hi, rfl⟩ := List.mem_map.1 hxm
      exact (hx i (by have := List.mem_range.1 hi; omega)).2
set_option maxRecDepth 100000 in
/-- A configuration that came in. -/
theorem cfg_arg8 {H : Type} {enc : TypeId × Value → H} {W : World} {base : Nat} {v : Value} {d : DataW H} {ps : List MemPlace} (hok : Value.okWide Tryd.prog W .any base 24 v) (h : DataW.Trod enc Tryd.prog W 0 (fun _ => true) true 24 v d ps) :
    ∃ c p cap, v = cfgA c (.slice p c.L.length cap) ∧ TxsIn W c.L p cap ∧ CfgIn c := by
  obtain ⟨f0, f1, f2, hst, o0, o1, o2, t0, t1, t2⟩ := qCfgFields
  obtain ⟨cs, rfl, hsz⟩ := okWide_struct hst hok
  rw [qCellsCfg] at hsz
  obtain ⟨fuel, hf⟩ := h
  obtain ⟨csl, hcsl⟩ : ∃ csl, csl = cs.toList := ⟨_, rfl⟩
  have hcl : csl.length = 3 := by rw [hcsl]; simpa using hsz
  have hce : cs = csl.toArray := by rw [hcsl]
  subst hce
  have hf2 : DataW.trod enc Tryd.prog W 0 (fun _ => true) true fuel 24 csl = some (d, ps) := by
    have e : (Value.agg csl.toArray).cells.toList = csl := by simp [Value.cells]
    rw [← e]
    exact hf
  obtain ⟨z0, z1, z2, n2, _, hlen, k0, k1, k2⟩ := Deep.trod_struct3 hst hf2
  match csl, hcl with
  | [v0, v1, v2], _ =>
    rw [t0, o0, qCellsInt] at k0
    rw [t1, o1, qCellsInt] at k1
    rw [t2, o2, qCellsStrs] at k2
    obtain ⟨cn, hn, _, wn⟩ := DataW.trod_int Tryd.underlying3 k0
    obtain ⟨ck, hk, _, wk⟩ := DataW.trod_int Tryd.underlying3 k1
    obtain ⟨p, l, cap, hl, htx⟩ := strs_arg8 (show DataW.trod _ _ _ _ _ _ _ _ [v2] = some z2 from k2)
    simp at hn hk
    subst hn hk hl
    exact ⟨⟨cn, ck, l⟩, p, cap, rfl, htx, bounds_i64 wn, bounds_i64 wk⟩
set_option maxRecDepth 100000 in
/-- A list of texts, by its value. -/
theorem strs_in8 {H : Type} {enc : TypeId × Value → H} {W : World} {base : Nat} {v : Value} {d : DataW H} {ps : List MemPlace} (hok : Value.okWide Tryd.prog W .any base 22 v) (h : DataW.Trod enc Tryd.prog W 0 (fun _ => true) true 22 v d ps) : ∃ p l cap, v = .slice p l.length cap ∧ TxsIn W l p cap := by
  obtain ⟨a0, len0, cap0, rfl⟩ := okWide_slice Tryd.underlying22 hok
  obtain ⟨fuel, hf⟩ := h
  exact strs_arg8 hf
end
theorem map_range_set (r : Nat) (vf : Nat → Value) (j : Nat) (v : Value) : ((List.range r).map vf).set j v = (List.range r).map (fun i => if i = j then v else vf i) := by
  apply List.ext_getElem?
  intro i
  rw [List.getElem?_set, List.getElem?_map, List.getElem?_map]
  by_cases hi : i < r
  · rw [List.getElem?_range hi]
    by_cases e : j = i
    · subst e; simp [hi]
    · have e' : ¬ i = j := fun h => e h.symm
      simp [e, e']
  · rw [List.getElem?_eq_none (by simpa using hi)]
    by_cases e : j = i
    · subst e; simp [hi]
    · simp [e]
/-- Values of type E in a row of the call's own. -/
def OwnE (w : World) (E : TypeId) (B g r : Nat) (vf : Nat → Value) : Prop := w.ownsRow B E 1 (.slice (some ⟨g, 0, none⟩) r r) r ((List.range r).map vf)
theorem OwnE.made (w : World) (E : TypeId) (z : Value) (B r : Nat) (hB : B ≤ w.heap.size) (hr : r ≤ 1000000) : OwnE (w.alloc (.cells (madeCells #[z] r) E)) E B w.heap.size r (fun _ => z) := by
  have h := World.ownsRow_lit (base := B) (e := E) (size := 1) w (madeCells #[z] r) r hB (by unfold maxLen; omega) (by have := congrArg List.length (toList_madeCells_one z r); simpa using this)
  rw [toList_madeCells_one] at h
  unfold OwnE
  rw [List.map_const', List.length_range]
  exact h
theorem OwnE.cell {w : World} {E : TypeId} {B g r : Nat} {vf : Nat → Value} (h : OwnE w E B g r vf) (j : Nat) (hj : j < r) : w.cell? ⟨g, j, none⟩ = some (vf j) := by
  rw [World.ownsRow.cellAt (w := w) h j (by omega), List.getElem?_map, List.getElem?_range hj]
  rfl
theorem OwnE.free {w : World} {E : TypeId} {B g r : Nat} {vf : Nat → Value} (h : OwnE w E B g r vf) (j : Nat) : w.frozen? ⟨g, j, none⟩ = false := World.ownsRow.frozenAt (w := w) h j
theorem OwnE.set {w : World} {E : TypeId} {B g r : Nat} {vf : Nat → Value} (h : OwnE w E B g r vf) (j : Nat) (v : Value) : OwnE (w.setCell ⟨g, j, none⟩ v) E B g r (fun i => if i = j then v else vf i) := by
  have := (World.ownsRow.stored (w := w) h j v).1
  rw [map_range_set] at this
  exact this
theorem OwnE.kept {w w' : World} {E : TypeId} {B g r : Nat} {vf : Nat → Value} {row : Option Nat} (h : OwnE w E B g r vf) (hg : w.grownBy w' row) (hne : row ≠ some g) : OwnE w' E B g r vf :=
  World.ownsRow.kept h hg (Or.inr (fun e => hne e.symm))
theorem OwnE.congr {w : World} {E : TypeId} {B g r : Nat} {vf vg : Nat → Value} (h : OwnE w E B g r vf) (he : ∀ i, i < r → vf i = vg i) : OwnE w E B g r vg := by
  unfold OwnE
  rw [List.map_congr_left (g := vf) (fun i hi => (he i (List.mem_range.1 hi)).symm)]
  exact h
theorem OwnE.lt {w : World} {E : TypeId} {B g r : Nat} {vf : Nat → Value} (h : OwnE w E B g r vf) : B ≤ g ∧ g < w.heap.size := World.ownsRow.lt h g rfl
/-- In the world w the numbers l lie from p on. -/
def Ints (w : World) (p : Option Addr) (l : List Int) : Prop := l = [] ∨ ∃ b o, p = some ⟨b, o, none⟩ ∧ b < w.heap.size ∧ ∀ i, i < l.length → w.cell? ⟨b, o + i, none⟩ = some (.int .i64 (l.getD i 0))
theorem Ints.below {w w' : World} {p : Option Addr} {l : List Int} (h : Ints w p l) (hb : Below w.heap.size w w') : Ints w' p l := by
  rcases h with h | ⟨b, o, hp, hlt, hc⟩
  · exact Or.inl h
  · exact Or.inr ⟨b, o, hp, Nat.lt_of_lt_of_le hlt hb.size, fun i hi => (hb.cell (p := ⟨b, o + i, none⟩) hlt).trans (hc i hi)⟩
/-- Unlike ones among others: no more than those. -/
theorem length_le_of_subset : ∀ (l X : List Nat), l.Nodup → (∀ x ∈ l, x ∈ X) → l.length ≤ X.length
  | [], _, _, _ => Nat.zero_le _
  | a :: t, X, hn, hs => by
    have ha : a ∈ X := hs a (List.mem_cons_self ..)
    have hn' := List.nodup_cons.1 hn
    have := length_le_of_subset t (X.erase a) hn'.2 (fun x hx => (List.mem_erase_of_ne (fun e => hn'.1 (by rw [← e]; exact hx))).2 (hs x (List.mem_cons_of_mem _ hx)))
    rw [List.length_erase_of_mem ha] at this
    have hp := List.length_pos_of_mem ha
    simp only [List.length_cons]
    omega
theorem boolinfo : (Tryd.prog.info? 4).map (fun i => (i.zero, i.size, i.bytes)) = some (some (.bool false), 1, 1) := by kernel_rfl
section
open Go.ChangeShapes Go.WideShapes Go.ChangeAt Go.RowKit
theorem lt_of_cellI {w : World} {b o : Nat} {v : Value} (h : w.cell? ⟨b, o, none⟩ = some v) : b < w.heap.size := by
  rcases Nat.lt_or_ge b w.heap.size with h' | h'
  · exact h'
  · simp [World.cell?, Array.getElem?_eq_none h'] at h
theorem anyLaidOut : laidOutB Tryd.prog = true := by kernel_rfl
set_option maxRecDepth 100000 in
theorem ints_arg {H : Type} {enc : TypeId × Value → H} {W : World} {base : Nat} {v : Value} {d : DataW H} {ps : List MemPlace} (hok : Value.okWide Tryd.prog W .any base 43 v)
    (h : DataW.Trod enc Tryd.prog W 0 (fun _ => true) true 43 v d ps) : ∃ p l cap, v = .slice p l.length cap ∧ Ints W p l ∧ l.length ≤ maxLen ∧ ∀ i, -9223372036854775808 ≤ l.getD i 0 ∧ l.getD i 0 < 9223372036854775808 := by
  obtain ⟨a0, len0, cap0, rfl⟩ := okWide_slice Tryd.underlying43 hok
  obtain ⟨fuel, hf⟩ := h
  rcases open_ints Tryd.underlying43 Tryd.underlying3 (by kernel_rfl) hf with ⟨hcs, _⟩ | ⟨x, l, c, zs, hcs, _, hl, hm, hz, _, hcell, hwz⟩
  · simp [Value.cells] at hcs
    obtain ⟨rfl, rfl, rfl⟩ := hcs
    exact ⟨none, [], 0, rfl, Or.inl rfl, Nat.zero_le _, fun i => by simp⟩
  · simp [Value.cells] at hcs
    obtain ⟨rfl, rfl, rfl⟩ := hcs
    have hz' : zs.length = cap0 := by simpa using hz
    have hlen : (zs.take len0).length = len0 := by simp; omega
    have hnth : ∀ i, i < len0 → (zs.take len0).getD i 0 = zs.getD i 0 := by
      intro i hi
      rw [List.getD_eq_getElem?_getD, List.getD_eq_getElem?_getD, List.getElem?_take_of_lt hi]
    refine ⟨some x, zs.take len0, cap0, by rw [hlen], ?_, by rw [hlen]; omega, fun i => ?_⟩
    · by_cases h0 : len0 = 0
      · exact Or.inl (List.length_eq_zero_iff.1 (by rw [hlen]; exact h0))
      · obtain ⟨b, off, rfl, hc⟩ := ints_at hcell (by omega)
        refine Or.inr ⟨b, off, rfl, lt_of_cellI (hc 0 (by omega)), fun i hi => ?_⟩
        rw [hlen] at hi
        rw [hc i (by omega), hnth i hi]
    · by_cases hi : i < len0
      · rw [hnth i hi]
        have hmem : zs.getD i 0 ∈ zs := by rw [List.getD_eq_getElem?_getD, List.getElem?_eq_getElem (by omega)]; exact List.getElem_mem _
        have := bounds_i64 (hwz _ hmem)
        omega
      · rw [List.getD_eq_getElem?_getD, List.getElem?_eq_none (by rw [hlen]; omega)]
        decide
end
theorem OwnT.setC {w : World} {B b : Nat} {v : Value} {l : List ByteArray} (h : OwnT w B v l) (hb : b < B) (i : Nat) (x : Value) : OwnT (w.setCell ⟨b, i, none⟩ x) B v l :=
  World.ownsRow.kept (row := some b) h ⟨rfl, rfl, rfl, by simp, fun k _ hne => Deep.blk_setCell_other _ _ _ _ (fun e => hne (by rw [e]))⟩ (Or.inr fun e => by have := (h.block e).1; omega)
set_option maxRecDepth 10000 in
set_option maxHeartbeats 2000000 in
theorem ownConfig_any (c : Cfg) (p : Option Addr) (cap : Nat) (w : World) (hl : c.L.length ≤ 8796093021952) (hs : Strs w p c.L) (hn : p = none → c.L = [] ∧ cap = 0) :
    Calls Tryd.prog 10 #[cfgA c (.slice p c.L.length cap)] w fun e w' => (∃ q d, e = .returned (cfgA c (.slice q c.L.length d)) ∧ Strs w' q c.L ∧ c.L.length ≤ d ∧ (q = none → c.L = [] ∧ d = 0)) ∧ Below w.heap.size w w' := by
  obtain ⟨cn, ck, cL⟩ := c
  unfold cfgA
  simp only [] at *
  obtain ⟨w1, hw1⟩ : ∃ w1, w1 = (w.alloc (.cells #[.int .i64 cn, .int .i64 ck, .slice p cL.length cap] 24)).alloc (.cells #[.int .i64 0, .int .i64 0, .slice none 0 0] 24) := ⟨_, rfl⟩
  have HW1 : Hid (w1 = (w.alloc (.cells #[.int .i64 cn, .int .i64 ck, .slice p cL.length cap] 24)).alloc (.cells #[.int .i64 0, .int .i64 0, .slice none 0 0] 24)) := hw1
  have hb1 : Below w.heap.size w w1 := by rw [hw1]; exact ((Below.refl _ _).alloc (Nat.le_refl _) _).alloc (by simp) _
  have e2 : (w.alloc (.cells #[.int .i64 cn, .int .i64 ck, .slice p cL.length cap] 24)).heap.size = w.heap.size + 1 := by simp
  have hx1 : w1.heap[w.heap.size]? = some (.cells #[.int .i64 cn, .int .i64 ck, .slice p cL.length cap] 24 (0, 0)) := by
    rw [hw1, heap_alloc_old _ _ (by rw [e2]; omega)]
    exact heap_alloc_new _ _
  have hy1 : w1.heap[w.heap.size + 1]? = some (.cells #[.int .i64 0, .int .i64 0, .slice none 0 0] 24 (0, 0)) := by
    rw [hw1, ← e2]
    exact heap_alloc_new _ _
  have hs1 : w1.heap.size = w.heap.size + 2 := by rw [hw1]; simp
  have HS1 : Hid (Strs w1 p cL) := hs.below hb1
  have HF1 : Hid (w1.heap[w.heap.size]? = some (.cells #[.int .i64 cn, .int .i64 ck, .slice p cL.length cap] 24 (0, 0)) ∧ w1.heap[w.heap.size + 1]? = some (.cells #[.int .i64 0, .int .i64 0, .slice none 0 0] 24 (0, 0)) ∧ Below w.heap.size w w1 ∧ w1.heap.size = w.heap.size + 2) := ⟨hx1, hy1, hb1, hs1⟩
  have q2 : w1.cell? ⟨w.heap.size, 2, none⟩ = some (.slice p cL.length cap) := by simp [World.cell?, hx1]
  clear hw1 hb1 e2 hx1 hy1 hs1 hs
  go_enter Tryd.func10, Tryd.ntmps10
  go_wp2_with (first | (at_builtin; rw [← HW1.out]; refine wpList_append_strs rfl (.tmp 4) (.tmp 6) rfl w1.heap.size (.slice none 0 0) [] rfl (OwnT.nil _ _) p cL cap rfl HS1.out hn (by show 0 + cL.length ≤ _; omega) (Nat.le_refl _) ?_; intro v2 w2 hO2 hb2; rw [List.nil_append] at hO2; obtain ⟨q, d, hv2, hS2, hd2, hn2, hbk2⟩ := hO2.form; subst hv2; have hx2 := (hb2.block _ (by have := HF1.out.2.2.2; omega)).trans HF1.out.1; have hy2 := (hb2.block _ (by have := HF1.out.2.2.2; omega)).trans HF1.out.2.1; have HN2 : Hid (q = none → cL = [] ∧ d = 0) := (fun e => ⟨(by rcases hS2 with h | ⟨b, o, hq, _⟩; exact h; rw [e] at hq; cases hq), hn2 e⟩); have HO2 : Hid (OwnT w2 w1.heap.size (.slice q cL.length d) cL ∧ cL.length ≤ d ∧ Below w.heap.size w w2) := ⟨hO2, hd2, HF1.out.2.2.1.trans (hb2.mono HF1.out.2.2.1.size)⟩; have k0 : w2.cell? ⟨w.heap.size, 0, none⟩ = some (.int .i64 cn) := (by simp [World.cell?, hx2]); have k1 : w2.cell? ⟨w.heap.size, 1, none⟩ = some (.int .i64 ck) := (by simp [World.cell?, hx2]); have k2 : w2.cell? ⟨w.heap.size, 2, none⟩ = some (.slice p cL.length cap) := (by simp [World.cell?, hx2]); have k3 : w2.frozen? ⟨w.heap.size, 2, none⟩ = false := (by simp [World.frozen?, hx2]); have z0 : w2.cell? ⟨w.heap.size + 1, 0, none⟩ = some (.int .i64 0) := (by simp [World.cell?, hy2]); have z1 : w2.cell? ⟨w.heap.size + 1, 1, none⟩ = some (.int .i64 0) := (by simp [World.cell?, hy2]); have z2 : w2.cell? ⟨w.heap.size + 1, 2, none⟩ = some (.slice none 0 0) := (by simp [World.cell?, hy2]); have z3 : ∀ i, w2.frozen? ⟨w.heap.size + 1, i, none⟩ = false := (fun i => by simp [World.frozen?, hy2]); clear hO2 hb2 hS2 hd2 hn2 hbk2 hx2 hy2 q2))
  refine bodyPost_ret (v := .agg #[.int .i64 cn, .int .i64 ck, .slice q cL.length d]) (by simp [results, Tryd.results10, go_sem, z0, z1, z2]) rfl ?_
  have hsz := HF1.out.2.2.2
  have ho := (((HO2.out.1.setC (b := w.heap.size) (by omega) 2 (.slice q cL.length d)).setC (b := w.heap.size + 1) (by omega) 0 (.int .i64 cn)).setC (b := w.heap.size + 1) (by omega) 1 (.int .i64 ck)).setC (b := w.heap.size + 1) (by omega) 2 (.slice q cL.length d)
  obtain ⟨q', d', hv, hS, _⟩ := ho.form
  injection hv with e1 _ e2
  subst e1 e2
  exact ⟨⟨q, d, rfl, hS, HO2.out.2.1, HN2.out⟩, (((HO2.out.2.2.setCell (p := ⟨w.heap.size, 2, none⟩) (Nat.le_refl _) _).setCell (p := ⟨w.heap.size + 1, 0, none⟩) (by show w.heap.size ≤ w.heap.size + 1; omega) _).setCell (p := ⟨w.heap.size + 1, 1, none⟩) (by show w.heap.size ≤ w.heap.size + 1; omega) _).setCell (p := ⟨w.heap.size + 1, 2, none⟩) (by show w.heap.size ≤ w.heap.size + 1; omega) _⟩
/-- Is a configuration too long for a statement? -/
def longC (c : Cfg) : Bool := decide (30 < c.L.length) || c.L.any fun x => decide (60 < x.size)
theorem longC_fine {c : Cfg} (h : longC c = false) : c.L.length ≤ 30 ∧ ∀ x ∈ c.L, x.size ≤ 60 := by
  unfold longC at h
  rw [Bool.or_eq_false_iff] at h
  refine ⟨by have := of_decide_eq_false h.1; omega, fun x hx => ?_⟩
  have := List.any_eq_false.1 h.2 x hx
  simpa using this
set_option maxRecDepth 10000 in
set_option maxHeartbeats 1000000 in
theorem longConfig_any (c : Cfg) (p : Option Addr) (cap : Nat) (w : World) (hl : c.L.length ≤ maxLen) (hx : ∀ x ∈ c.L, x.size ≤ maxLen) (hs : Strs w p c.L) :
    Calls Tryd.prog 6 #[cfgA c (.slice p c.L.length cap)] w fun e w' => e = .returned (.bool (longC c)) ∧ Below w.heap.size w w' := by
  obtain ⟨cn, ck, l⟩ := c
  unfold maxLen at hl
  unfold cfgA
  simp only [] at *
  obtain ⟨w1, hw1⟩ : ∃ w1, w1 = w.alloc (.cells #[.int .i64 cn, .int .i64 ck, .slice p l.length cap] 24) := ⟨_, rfl⟩
  have HW1 : Hid (w1 = w.alloc (.cells #[.int .i64 cn, .int .i64 ck, .slice p l.length cap] 24)) := hw1
  have hb1 : Below w.heap.size w w1 := by rw [hw1]; exact (Below.refl _ _).alloc (Nat.le_refl _) _
  have q2 : w1.cell? ⟨w.heap.size, 2, none⟩ = some (.slice p l.length cap) := by rw [hw1, World.cell?_alloc_at _ _ _ _ rfl]; rfl
  have HB1 : Hid (Below w.heap.size w w1) := hb1
  by_cases h1 : 30 < l.length
  · have HR : Hid (longC ⟨cn, ck, l⟩ = true) := by show _ = _; unfold longC; rw [decide_eq_true h1, Bool.true_or]
    rw [HR.out]
    clear hw1 hb1 hs hx
    go_enter Tryd.func6, Tryd.ntmps6
    go_wp2
    go_ret
    exact ⟨rfl, by rw [← HW1.out]; exact HB1.out⟩
  have HX : Hid (∀ i, i < l.length → (txt l i).size ≤ 9223372036854775807) := fun i hi => by have := hx _ (txt_mem hi); unfold maxLen at this; omega
  have HT : Hid (∀ i, i < l.length → 60 < (txt l i).size → longC ⟨cn, ck, l⟩ = true) := fun i hi h => by
    unfold longC
    rw [decide_eq_false h1, Bool.false_or, List.any_eq_true]
    exact ⟨txt l i, txt_mem hi, decide_eq_true h⟩
  have HF : Hid ((∀ i, i < l.length → ¬ 60 < (txt l i).size) → longC ⟨cn, ck, l⟩ = false) := fun h => by
    unfold longC
    rw [decide_eq_false h1, Bool.false_or, List.any_eq_false]
    intro x hx h2
    obtain ⟨i, hi, rfl⟩ := txt_of_mem hx
    exact h i hi (of_decide_eq_true h2)
  generalize longC ⟨cn, ck, l⟩ = r at *
  have HS : Hid (Strs w1 p l) := hs.below hb1
  clear hs hx hw1 hb1
  go_enter Tryd.func6, Tryd.ntmps6
  go_wp2
  rw [show w.alloc (.cells #[.int .i64 cn, .int .i64 ck, .slice p l.length cap] 24) = w1 from HW1.out.symm]
  clear HW1
  go_loopw [3] (fun x wr => ∃ i : Nat, i ≤ l.length ∧ x = .int .i64 i ∧ (∀ j, j < i → ¬ 60 < (txt l j).size) ∧ wr = w1) (fun x _ => l.length - (intOf x).toNat)
  case atStart => exact ⟨0, Nat.zero_le _, rfl, (fun j hj => absurd hj (Nat.not_lt_zero _)), rfl⟩
  case round =>
    obtain ⟨i, hi, rfl, hall, hwr⟩ := hrel
    subst hwr
    have HALL : Hid (∀ j, j < i → ¬ 60 < (txt l j).size) := hall
    clear hall
    by_cases hil : i < l.length
    · rcases HS.out with h0 | ⟨b, o, rfl, hlt, hc⟩
      · rw [h0] at hil; exact absurd hil (Nat.not_lt_zero _)
      have q1 := hc i hil
      have hsz := HX.out i hil
      clear hc
      by_cases hbig : 60 < (txt l i).size
      · have HR : Hid (r = true) := HT.out i hil hbig
        clear HT HF HALL HX
        generalize txt l i = t at *
        go_wp2
        go_ret
        exact ⟨by rw [HR.out]; rfl, HB1.out⟩
      · have HBG : Hid (¬ 60 < (txt l i).size) := hbig
        clear HT HF HX
        generalize hti : txt l i = t at *
        have HTI : Hid (txt l i = t) := hti
        clear hti
        go_wp2
        go_roundw
        case rel => exact ⟨i + 1, by omega, by go_num, (fun j hj => by
          rcases Nat.lt_or_ge j i with h | h
          · exact HALL.out j h
          · obtain rfl : j = i := by omega
            rw [HTI.out]; exact HBG.out), trivial⟩
        case measure => simp [intOf]; omega
    · have HR : Hid (r = false) := HF.out (fun j hj => HALL.out j (by omega))
      go_wp2
      go_ret
      exact ⟨by rw [HR.out]; rfl, HB1.out⟩
theorem cfgAt_of {w : World} {c : Cfg} {p : Option Addr} {cap : Nat} (h1 : Strs w p c.L) (h2 : c.L.length ≤ cap) (h3 : p = none → c.L = [] ∧ cap = 0) (h4 : longC c = false) (h5 : CfgIn c) : CfgAt w c p cap :=
  ⟨h1, h2, h3, by have := (longC_fine h4).1; omega, fun x hx => by have := (longC_fine h4).2 x hx; omega, h5⟩
set_option maxRecDepth 10000 in
theorem sclone_any (t : ByteArray) (w : World) (ht : t.size ≤ 140737488351232) : Calls Tryd.prog 26 #[.string t] w fun e w' => e = .returned (.string t) ∧ Below w.heap.size w w' := by
  have HC : Hid (∀ W, Calls Tryd.prog 33 #[.string t] W fun e w' => e = .returned (.string t) ∧ Below W.heap.size W w') := fun W => Tryd.stringslite_Clone t W (by omega)
  go_enter Tryd.func26, Tryd.ntmps26
  go_wp2_with fail
  refine (HC.out _).mono ?_
  rintro e w1 ⟨rfl, hb1⟩
  have HB1 : Hid (Below w.heap.size w w1) := hb1
  clear hb1
  go_wp2
  go_ret
  exact ⟨rfl, HB1.out⟩
theorem strs_from {w : World} {p : Option Addr} {l : List ByteArray} {c k : Nat} (h : Strs w p l) (hk : k ≤ l.length) (hc : l.length ≤ c) (hn : p = none → l = [] ∧ c = 0) :
    Strs w (if c = k then p else p.map (·.add k)) (l.drop k) ∧ ((if c = k then p else p.map (·.add k)) = none → l.drop k = [] ∧ c - k = 0) := by
  by_cases e : c = k
  · rw [if_pos e]
    have h0 : l.drop k = [] := List.drop_eq_nil_of_le (by omega)
    exact ⟨Or.inl h0, fun _ => ⟨h0, by omega⟩⟩
  · rw [if_neg e]
    cases p with
    | none =>
      obtain ⟨h1, h2⟩ := hn rfl
      rw [h1] at hk
      simp at hk
      omega
    | some a =>
      refine ⟨?_, fun h0 => by cases h0⟩
      rcases h with h | ⟨b, o, hp, hlt, hcell⟩
      · exact Or.inl (by rw [h, List.drop_nil])
      · obtain rfl : a = ⟨b, o, none⟩ := by simpa using hp
        refine Or.inr ⟨b, o + k, by simp [Addr.add_lit], hlt, fun i hi => ?_⟩
        rw [List.length_drop] at hi
        rw [Nat.add_assoc, hcell (k + i) (by omega)]
        congr 2
        unfold txt
        rw [List.getD_eq_getElem?_getD, List.getD_eq_getElem?_getD, List.getElem?_drop]
theorem run_strs_from (p : Option Addr) (l : List ByteArray) (c k : Nat) (hk : k ≤ l.length) (W : World) : Sem.run Tryd.prog (Instr.slice 22 (.slice p l.length c) (some (.int .i64 (k : Int))) none none) W = .ok (.slice (if c = k then p else p.map (·.add k)) (l.drop k).length (c - k)) W := by
  have hsz : (sizeOf (Tryd.prog.elem 22)).run Tryd.prog W = .ok 1 W := by kernel_rfl
  have hel : Tryd.prog.elem 22 = 9 := by kernel_rfl
  have hun : Tryd.prog.underlying 22 = some (.slice (Tryd.prog.elem 22)) := by rw [hel]; exact Tryd.underlying22
  rw [run_slice_l W 22 p l.length c hun .i64 (k : Int) (by omega) (by omega), hsz]
  simp [Result.andThen, sliced]
theorem run_strs_to (p : Option Addr) (l : List ByteArray) (c k : Nat) (hk : k ≤ l.length) (hc : l.length ≤ c) (W : World) : Sem.run Tryd.prog (Instr.slice 22 (.slice p l.length c) none (some (.int .i64 (k : Int))) none) W = .ok (.slice p (l.take k).length c) W := by
  have hsz : (sizeOf (Tryd.prog.elem 22)).run Tryd.prog W = .ok 1 W := by kernel_rfl
  have hel : Tryd.prog.elem 22 = 9 := by kernel_rfl
  have hun : Tryd.prog.underlying 22 = some (.slice (Tryd.prog.elem 22)) := by rw [hel]; exact Tryd.underlying22
  have hl : (l.take k).length = k := by rw [List.length_take]; omega
  rw [run_slice_h W 22 p l.length c hun .i64 (k : Int) (by omega) (by omega), hsz, hl]
  simp [Result.andThen, sliced, Addr.add]
structure E3 (w : World) (ad : Nat → Addr) : Prop where
  c1 : w.cell? ⟨0, 0, none⟩ = some (.iface 101 (.pointer (some (ad 1))))
  c3 : w.cell? ⟨4, 0, none⟩ = some (.iface 101 (.pointer (some (ad 3))))
  c5 : w.cell? ⟨5, 0, none⟩ = some (.iface 101 (.pointer (some (ad 5))))
theorem E3.below {w w' : World} {ad : Nat → Addr} (h : E3 w ad) (hb : Below w.heap.size w w') : E3 w' ad := ⟨(hb.cell (lt_of_cellE h.c1)).trans h.c1, (hb.cell (lt_of_cellE h.c3)).trans h.c3, (hb.cell (lt_of_cellE h.c5)).trans h.c5⟩
theorem errIs_fault {w w' : World} {ad : Nat → Addr} {t : TypeId} (i : Nat) (hi : i < 12) (at_ : Int) (hw : w' = w.alloc (.cells #[.int .i64 at_, .iface 101 (.pointer (some (ad i)))] t)) : ErrIs w' ad (.iface 56 (.pointer (some ⟨w.heap.size, 0, none⟩))) ((i + 1 : Nat) : Int) at_ := by
  subst hw
  refine Or.inr (Or.inr ⟨i, w.heap.size, hi, rfl, rfl, ?_, ?_⟩)
  · rw [World.cell?_alloc_at _ _ _ _ rfl]; rfl
  · rw [World.cell?_alloc_at _ _ _ _ rfl]; rfl
set_option maxRecDepth 10000 in
set_option maxHeartbeats 1000000 in
theorem check3_bound (ad : Nat → Addr) (p : Option Addr) (l : List ByteArray) (c : Nat) (w : World) (hl : l.length ≤ 1000) (hE : E3 w ad) (h : l.length < 1 ∨ 16 < l.length) :
    Calls Tryd.prog 22 #[.slice p l.length c] w fun e w' => (∃ ev, e = .returned ev ∧ ErrIs w' ad ev 2 (-1)) ∧ Below w.heap.size w w' := by
  have q1 := hE.c1
  have HI : Hid (∀ W, ErrIs W ad (.iface 101 (.pointer (some (ad 1)))) 2 (-1)) := fun W => ErrIs.sent 1 (by decide)
  clear hE
  rcases h with h | h
  · have d1 : decide ((l.length : Int) < 1) = true := decide_eq_true (by omega)
    go_enter Tryd.func22, Tryd.ntmps22
    go_wp2
    go_ret
    exact ⟨⟨_, rfl, HI.out _⟩, Below.refl _ _⟩
  · have d1 : decide ((l.length : Int) < 1) = false := decide_eq_false (by omega)
    have d2 := decide_eq_true (by omega)
    go_enter Tryd.func22, Tryd.ntmps22
    go_wp2
    go_ret
    exact ⟨⟨_, rfl, HI.out _⟩, Below.refl _ _⟩
set_option maxRecDepth 10000 in
set_option maxHeartbeats 4000000 in
theorem check3_scan (ad : Nat → Addr) (p : Option Addr) (l : List ByteArray) (c : Nat) (w : World) (h1 : ¬ l.length < 1) (h2 : ¬ 16 < l.length) (hc : l.length ≤ c) (hs : Strs w p l) (hE : E3 w ad) :
    Calls Tryd.prog 22 #[.slice p l.length c] w fun e w' => (∃ ev, e = .returned ev ∧ ErrIs w' ad ev (scanF l 0 l.length).1 (scanF l 0 l.length).2) ∧ Below w.heap.size w w' := by
  have HS : Hid (Strs w p l) := hs
  have HE : Hid _ := hE
  have g1 := decide_eq_false (by omega)
  have g2 := decide_eq_false (by omega)
  obtain ⟨b, o, rfl⟩ : ∃ b o, p = some ⟨b, o, none⟩ := by
    rcases hs with h0 | ⟨b, o, hp, _⟩
    · rw [h0] at h1; exact absurd (by decide) h1
    · exact ⟨b, o, hp⟩
  clear hs hE
  obtain ⟨R, hR⟩ : ∃ R, R = scanF l 0 l.length := ⟨_, rfl⟩
  rw [← hR]
  have HR : Hid _ := hR
  clear hR
  go_enter Tryd.func22, Tryd.ntmps22
  go_wp2
  go_loopw [16] (fun x wq => ∃ i : Nat, i ≤ l.length ∧ x = .int .i64 i ∧ scanF l i (l.length - i) = R ∧ Below w.heap.size w wq) (fun x _ => l.length - (intOf x).toNat)
  case atStart => exact ⟨0, Nat.zero_le _, rfl, HR.out.symm, Below.refl _ _⟩
  case round =>
    obtain ⟨i, hi, rfl, hsc, hbq⟩ := hrel
    obtain ⟨w1, rfl⟩ : ∃ w1, w1 = wr := ⟨_, rfl⟩
    have HSC : Hid _ := hsc
    have HBW : Hid _ := hbq
    have HS1 : Hid (Strs w1 (some ⟨b, o, none⟩) l) := HS.out.below hbq
    have HE1 : Hid (E3 w1 ad) := HE.out.below hbq
    clear hsc hbq HR HS HE
    by_cases hil : i < l.length
    · have q3 : w1.cell? ⟨b, o + i, none⟩ = some (.string (txt l i)) := by
        rcases HS1.out with h0 | ⟨b', o', hp, _, hcell⟩
        · rw [h0] at hil; exact absurd hil (Nat.not_lt_zero _)
        · obtain ⟨rfl, rfl⟩ : b = b' ∧ o = o' := by simpa using hp
          exact hcell i hil
      have HNAME : Hid (∀ W, Calls Tryd.prog 31 #[.string (txt l i)] W fun e w' => e = .returned (.bool (isN (txt l i))) ∧ Below W.heap.size W w') := fun W => pname_any _ W
      have HSUC : Hid (scanF l i (l.length - i) = if faultAt l i = 0 then scanF l (i + 1) (l.length - (i + 1)) else (((faultAt l i : Nat) : Int), (i : Int))) := by
        show _ = _
        rw [show l.length - i = (l.length - (i + 1)) + 1 by omega]
        rfl
      by_cases hN : isN (txt l i) = true
      · have HCON : Hid (∀ W, Strs W (some ⟨b, o, none⟩) (l.take i) → Calls Tryd.prog 24 #[.slice (some ⟨b, o, none⟩) (l.take i).length c, .string (txt l i)] W fun e w' => e = .returned (.bool (inL (l.take i) (txt l i))) ∧ w' = W) := fun W hW => scont_any _ _ c _ W (by rw [List.length_take]; omega) hW
        rw [show (l.take i).length = i by rw [List.length_take]; omega] at HCON
        rw [hN] at HNAME
        by_cases hM : txt l i ∈ l.take i
        · have HA : Hid (R = (6, (i : Int))) := by
            show _ = _
            rw [← HSC.out, HSUC.out, faultAt_twice hN hM, if_neg (by decide)]
            rfl
          rw [inL_iff.2 hM] at HCON
          clear HSC HSUC hN hM
          generalize txt l i = t at *
          go_wp2_with fail
          refine (HNAME.out _).mono ?_
          rintro e w2 ⟨rfl, hb2⟩
          have HB2 : Hid (Below w.heap.size w w2) := HBW.out.trans (hb2.mono HBW.out.size)
          have HS2 : Hid (Strs w2 (some ⟨b, o, none⟩) (l.take i)) := (HS1.out.below hb2).take i
          have hE2 : E3 w2 ad := HE1.out.below hb2
          have q4 := hE2.c5
          clear hE2 hb2 HNAME q3
          go_wp2_with fail
          refine (HCON.out _ HS2.out).mono ?_
          rintro e w3 ⟨rfl, hw3⟩
          rw [hw3]
          clear hw3 w3 HCON HS2
          go_wp2
          go_ret
          exact ⟨⟨_, rfl, by rw [HA.out]; exact errIs_fault (w := w2) 5 (by decide) (i : Int) rfl⟩, HB2.out.alloc HB2.out.size _⟩
        · have HA : Hid (scanF l (i + 1) (l.length - (i + 1)) = R) := by
            show _ = _
            rw [← HSC.out, HSUC.out, faultAt_fine hN hM, if_pos rfl]
          rw [Bool.eq_false_iff.2 (fun h => hM (inL_iff.1 h))] at HCON
          clear HSC HSUC hN hM
          generalize txt l i = t at *
          go_wp2_with fail
          refine (HNAME.out _).mono ?_
          rintro e w2 ⟨rfl, hb2⟩
          have HB2 : Hid (Below w.heap.size w w2) := HBW.out.trans (hb2.mono HBW.out.size)
          have HS2 : Hid (Strs w2 (some ⟨b, o, none⟩) (l.take i)) := (HS1.out.below hb2).take i
          clear hb2 HNAME q3
          go_wp2_with fail
          refine (HCON.out _ HS2.out).mono ?_
          rintro e w3 ⟨rfl, hw3⟩
          rw [hw3]
          clear hw3 w3 HCON HS2
          go_wp2
          go_roundw
          case rel => exact ⟨i + 1, by omega, by go_num, HA.out, HB2.out⟩
          case measure => simp [intOf]; omega
      · have hN' : isN (txt l i) = false := Bool.eq_false_iff.2 hN
        have HA : Hid (R = (4, (i : Int))) := by
          show _ = _
          rw [← HSC.out, HSUC.out, faultAt_name hN', if_neg (by decide)]
          rfl
        rw [hN'] at HNAME
        clear HSC HSUC hN hN'
        generalize txt l i = t at *
        go_wp2_with fail
        refine (HNAME.out _).mono ?_
        rintro e w2 ⟨rfl, hb2⟩
        have HB2 : Hid (Below w.heap.size w w2) := HBW.out.trans (hb2.mono HBW.out.size)
        have hE2 : E3 w2 ad := HE1.out.below hb2
        have q4 := hE2.c3
        clear hE2 hb2 HNAME q3
        go_wp2
        go_ret
        exact ⟨⟨_, rfl, by rw [HA.out]; exact errIs_fault (w := w2) 3 (by decide) (i : Int) rfl⟩, HB2.out.alloc HB2.out.size _⟩
    · have hie : i = l.length := by omega
      subst hie
      have HA : Hid (R = (0, -1)) := by
        show _ = _
        rw [← HSC.out, Nat.sub_self]
        rfl
      clear HSC
      go_wp2
      go_ret
      exact ⟨⟨_, rfl, by rw [HA.out]; exact ErrIs.nil _ _⟩, HBW.out⟩
theorem check3_any (ad : Nat → Addr) (p : Option Addr) (l : List ByteArray) (c : Nat) (w : World) (hl : l.length ≤ 1000) (hc : l.length ≤ c) (hs : Strs w p l) (hE : E3 w ad) :
    Calls Tryd.prog 22 #[.slice p l.length c] w fun e w' => (∃ ev, e = .returned ev ∧ ErrIs w' ad ev (nodesF l).1 (nodesF l).2) ∧ Below w.heap.size w w' := by
  by_cases h : l.length < 1 ∨ 16 < l.length
  · rw [nodesF_bound h]
    exact check3_bound ad p l c w hl hE h
  · rw [nodesF_scan (by omega) (by omega)]
    exact check3_scan ad p l c w (by omega) (by omega) hc hs hE
set_option maxRecDepth 10000 in
theorem mfits_any (n k : Int) (w : World) : Calls Tryd.prog 21 #[.int .i64 n, .int .i64 k] w fun e w' => e = .returned (.bool (decide (1 ≤ k ∧ k ≤ n ∧ n ≤ 12))) ∧ w' = w := by
  by_cases h1 : 1 ≤ k
  · by_cases h2 : k ≤ n
    · by_cases h3 : n ≤ 12
      · have HE : Hid (decide (1 ≤ k ∧ k ≤ n ∧ n ≤ 12) = true) := decide_eq_true ⟨h1, h2, h3⟩
        rw [HE.out]
        go_enter Tryd.func21, Tryd.ntmps21
        go_wp2
        go_ret
        exact ⟨rfl, rfl⟩
      · have HE : Hid (decide (1 ≤ k ∧ k ≤ n ∧ n ≤ 12) = false) := decide_eq_false fun h => h3 h.2.2
        rw [HE.out]
        go_enter Tryd.func21, Tryd.ntmps21
        go_wp2
        go_ret
        exact ⟨rfl, rfl⟩
    · have HE : Hid (decide (1 ≤ k ∧ k ≤ n ∧ n ≤ 12) = false) := decide_eq_false fun h => h2 h.2.1
      rw [HE.out]
      go_enter Tryd.func21, Tryd.ntmps21
      go_wp2
      go_ret
      exact ⟨rfl, rfl⟩
  · have HE : Hid (decide (1 ≤ k ∧ k ≤ n ∧ n ≤ 12) = false) := decide_eq_false fun h => h1 h.1
    rw [HE.out]
    go_enter Tryd.func21, Tryd.ntmps21
    go_wp2
    go_ret
    exact ⟨rfl, rfl⟩
end Go.Proofs.YtpjeibicopgedaaDoor
