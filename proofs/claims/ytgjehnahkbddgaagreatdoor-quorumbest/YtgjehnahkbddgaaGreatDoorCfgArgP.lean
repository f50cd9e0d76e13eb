/- A configuration that came in; a list of texts that came in. -/
import Derived.Test.YtgjehnahkbddgaaGreatDoorZN
import Derived.ProofKit
import Derived.OpenShut
import Derived.ChangeOld
import Derived.Deep.SlicePairs
import Derived.Deep.Strs
import Derived.Lib.SmallJoins
namespace Go.Proofs.YtgjehnahkbddgaaGreatDoor
open Go.ChangeShapes Go.WideShapes Go.ChangeAt Go.RowKit
theorem cfgLaidOut : laidOutB Tryz.prog = true := by kernel_rfl
theorem qCfgFields : ∃ f0 f1 f2, Tryz.prog.underlying 24 = some (.struct #[f0, f1, f2]) ∧ f0.offset = 0 ∧ f1.offset = 1 ∧ f2.offset = 2 ∧ f0.type = 3 ∧ f1.type = 3 ∧ f2.type = 22 := ⟨_, _, _, Tryz.underlying24, rfl, rfl, rfl, rfl, rfl, rfl⟩
theorem qCellsInt : Tryz.prog.cellsOf 3 = 1 := by kernel_rfl
theorem qCellsStrs : Tryz.prog.cellsOf 22 = 1 := by kernel_rfl
theorem qCellsCfg : Tryz.prog.cellsOf 24 = 3 := by kernel_rfl
set_option maxRecDepth 100000 in
/-- Texts that came in. -/
theorem strs_arg8 {H : Type} {enc : TypeId × Value → H} {W : World} {fuel : Nat} {v : Value} {y : DataW H × List MemPlace} (h : DataW.trod enc Tryz.prog W 0 (fun _ => true) true fuel 22 [v] = some y) : ∃ p l cap, v = .slice p l.length cap ∧ TxsIn W l p cap := by
  rcases Deep.open_strs Tryz.underlying22 Tryz.underlying9 (by kernel_rfl) h with ⟨hcs, _⟩ | ⟨a, len0, cap0, m, Sx, hcs, _, hle, hcm, hm, hd, hx⟩
  · simp at hcs
    subst hcs
    exact ⟨none, [], 0, rfl, ⟨Or.inl rfl, Nat.le_refl _, fun _ => ⟨rfl, rfl⟩, Nat.zero_le _, fun x hx => by cases hx⟩⟩
  · simp at hcs
    subst hcs
    have hlm : len0 ≤ m := by rw [hm]; split <;> omega
    have hlen : ((List.range len0).map Sx).length = len0 := by simp
    have hat : ∀ i, i < len0 → txt ((List.range len0).map Sx) i = Sx i := fun i hi => by
      rw [txt_getElem _ i (by rw [hlen]; exact hi)]
      simp
    refine ⟨some a, (List.range len0).map Sx, cap0, by rw [hlen], ⟨?_, by rw [hlen]; exact hle, (fun e => by cases e), by rw [hlen]; omega, fun x hxm => ?_⟩⟩
    · by_cases h0 : len0 = 0
      · exact Or.inl (List.length_eq_zero_iff.1 (by rw [hlen]; exact h0))
      · have hx0 := (hx 0 (by omega)).1
        obtain ⟨b, off, sp⟩ := a
        have hsp : sp = none := by
          cases sp with
          | none => rfl
          | some q =>
            exfalso
            simp [Addr.add, World.cell?] at hx0
            revert hx0
            split <;> intro h9 <;> cases h9
        subst hsp
        refine Or.inr ⟨b, off, rfl, ?_, fun i hi => ?_⟩
        · rw [Addr.add_lit] at hx0
          rcases Nat.lt_or_ge b W.heap.size with h' | h'
          · exact h'
          · simp [World.cell?, Array.getElem?_eq_none h'] at hx0
        · rw [hlen] at hi
          have := (hx i (by omega)).1
          rw [Addr.add_lit] at this
          rw [hat i hi]
          exact this
    · obtain ⟨i, hi, rfl⟩ := List.mem_map.1 hxm
      exact (hx i (by have := List.mem_range.1 hi; omega)).2
set_option maxRecDepth 100000 in
/-- A configuration that came in. -/
theorem cfg_arg8 {H : Type} {enc : TypeId × Value → H} {W : World} {base : Nat} {v : Value} {d : DataW H} {ps : List MemPlace} (hok : Value.okWide Tryz.prog W .any base 24 v) (h : DataW.Trod enc Tryz.prog W 0 (fun _ => true) true 24 v d ps) :
    ∃ c p cap, v = cfgA c (.slice p c.L.length cap) ∧ TxsIn W c.L p cap ∧ CfgIn c := by
  obtain ⟨f0, f1, f2, hst, o0, o1, o2, t0, t1, t2⟩ := qCfgFields
  obtain ⟨cs, rfl, hsz⟩ := okWide_struct hst hok
  rw [qCellsCfg] at hsz
  obtain ⟨fuel, hf⟩ := h
  obtain ⟨csl, hcsl⟩ : ∃ csl, csl = cs.toList := ⟨_, rfl⟩
  have hcl : csl.length = 3 := by rw [hcsl]; simpa using hsz
  have hce : cs = csl.toArray := by rw [hcsl]
  subst hce
  have hf2 : DataW.trod enc Tryz.prog W 0 (fun _ => true) true fuel 24 csl = some (d, ps) := by
    have e : (Value.agg csl.toArray).cells.toList = csl := by simp [Value.cells]
    rw [← e]
    exact hf
  obtain ⟨z0, z1, z2, n2, _, hlen, k0, k1, k2⟩ := Deep.trod_struct3 hst hf2
  match csl, hcl with
  | [v0, v1, v2], _ =>
    rw [t0, o0, qCellsInt] at k0
    rw [t1, o1, qCellsInt] at k1
    rw [t2, o2, qCellsStrs] at k2
    obtain ⟨cn, hn, _, wn⟩ := DataW.trod_int Tryz.underlying3 k0
    obtain ⟨ck, hk, _, wk⟩ := DataW.trod_int Tryz.underlying3 k1
    obtain ⟨p, l, cap, hl, htx⟩ := strs_arg8 (show DataW.trod _ _ _ _ _ _ _ _ [v2] = some z2 from k2)
    simp at hn hk
    subst hn hk hl
    exact ⟨⟨cn, ck, l⟩, p, cap, rfl, htx, bounds_i64 wn, bounds_i64 wk⟩
set_option maxRecDepth 100000 in
/-- A list of texts, by its value. -/
theorem strs_in8 {H : Type} {enc : TypeId × Value → H} {W : World} {base : Nat} {v : Value} {d : DataW H} {ps : List MemPlace} (hok : Value.okWide Tryz.prog W .any base 22 v) (h : DataW.Trod enc Tryz.prog W 0 (fun _ => true) true 22 v d ps) : ∃ p l cap, v = .slice p l.length cap ∧ TxsIn W l p cap := by
  obtain ⟨a0, len0, cap0, rfl⟩ := okWide_slice Tryz.underlying22 hok
  obtain ⟨fuel, hf⟩ := h
  exact strs_arg8 hf
end Go.Proofs.YtgjehnahkbddgaaGreatDoor
