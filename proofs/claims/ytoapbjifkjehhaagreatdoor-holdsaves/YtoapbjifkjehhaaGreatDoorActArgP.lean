/- A slice of acts that came in. -/
import Derived.Test.YtoapbjifkjehhaaGreatDoorRows
import Derived.Test.YtoapbjifkjehhaaGreatDoorG5
import Derived.ProofKit
import Derived.OpenShut
import Derived.ChangeOld
import Derived.Deep.SlicePairs
import Derived.Lib.SmallJoins
namespace Go.Proofs.YtoapbjifkjehhaaGreatDoor
open Go.ChangeShapes Go.WideShapes Go.ChangeAt Go.RowKit
theorem actLaidOut : laidOutB Tryz.prog = true := by kernel_rfl
theorem actFields : ∃ f0 f1 f2 f3, Tryz.prog.underlying 70 = some (.struct #[f0, f1, f2, f3]) ∧ f0.offset = 0 ∧ f1.offset = 1 ∧ f2.offset = 2 ∧ f3.offset = 7 ∧ f0.type = 9 ∧ f1.type = 9 ∧ f2.type = 49 ∧ f3.type = 3 := ⟨_, _, _, _, Tryz.underlying70, rfl, rfl, rfl, rfl, rfl, rfl, rfl, rfl⟩
theorem verFields : ∃ f0 f1 f2, Tryz.prog.underlying 49 = some (.struct #[f0, f1, f2]) ∧ f0.offset = 0 ∧ f1.offset = 2 ∧ f2.offset = 3 ∧ f0.type = 45 ∧ f1.type = 3 ∧ f2.type = 47 := ⟨_, _, _, Tryz.underlying49, rfl, rfl, rfl, rfl, rfl, rfl⟩
theorem tagFields2 : ∃ f0 f1, Tryz.prog.underlying 45 = some (.struct #[f0, f1]) ∧ f0.offset = 0 ∧ f1.offset = 1 ∧ f0.type = 3 ∧ f1.type = 3 := ⟨_, _, Tryz.underlying45, rfl, rfl, rfl, rfl⟩
theorem shardFields : ∃ f0 f1, Tryz.prog.underlying 47 = some (.struct #[f0, f1]) ∧ f0.offset = 0 ∧ f1.offset = 1 ∧ f0.type = 3 ∧ f1.type = 9 := ⟨_, _, Tryz.underlying47, rfl, rfl, rfl, rfl⟩
theorem cellsAct : Tryz.prog.cellsOf 70 = 8 := by kernel_rfl
theorem cellsVer : Tryz.prog.cellsOf 49 = 5 := by kernel_rfl
theorem cellsTag : Tryz.prog.cellsOf 45 = 2 := by kernel_rfl
theorem cellsShard : Tryz.prog.cellsOf 47 = 2 := by kernel_rfl
theorem cellsInt : Tryz.prog.cellsOf 3 = 1 := by kernel_rfl
theorem cellsStr : Tryz.prog.cellsOf 9 = 1 := by kernel_rfl
/-- An act fits. -/
def ActFits (x : HAct) : Prop := x.key.size ≤ maxLen ∧ x.v.text.size ≤ maxLen ∧ -9223372036854775808 ≤ x.n ∧ x.n ≤ 9223372036854775807
set_option maxRecDepth 100000 in
theorem act_elem {H : Type} {enc : TypeId × Value → H} {W : World} {fuel : Nat} {cs : List Value} {y : DataW H × List MemPlace} (h : DataW.trod enc Tryz.prog W 0 (fun _ => true) true fuel 70 cs = some y) : ∃ x : HAct, cs = actC x ∧ ActFits x := by
  obtain ⟨f0, f1, f2, f3, hst, o0, o1, o2, o3, t0, t1, t2, t3⟩ := actFields
  obtain ⟨g0, g1, g2, hsv, p0, p1, p2, u0, u1, u2⟩ := verFields
  obtain ⟨a0, a1, hta, b0, b1, c0, c1⟩ := tagFields2
  obtain ⟨d0, d1, hsh, e0, e1, i0, i1⟩ := shardFields
  obtain ⟨y0, y1, y2, y3, n, _, hlen, h0, h1, h2, h3⟩ := Joins.trod_struct4 hst h
  rw [cellsAct] at hlen
  match cs, hlen with
  | [v0, v1, v2, v3, v4, v5, v6, v7], _ =>
    rw [t0, o0, cellsStr] at h0
    rw [t1, o1, cellsStr] at h1
    rw [t2, o2, cellsVer] at h2
    rw [t3, o3, cellsInt] at h3
    obtain ⟨s0, hs0, _, _⟩ := DataW.trod_string Tryz.underlying9 h0
    obtain ⟨s1, hs1, _, hz1⟩ := DataW.trod_string Tryz.underlying9 h1
    obtain ⟨x3, hx3, _, hw3⟩ := DataW.trod_int Tryz.underlying3 h3
    obtain ⟨z0, z1, z2, n2, _, _, k0, k1, k2⟩ := Deep.trod_struct3 hsv h2
    rw [u0, p0, cellsTag] at k0
    rw [u1, p1, cellsInt] at k1
    rw [u2, p2, cellsShard] at k2
    obtain ⟨xs, hxs, _, _⟩ := DataW.trod_int Tryz.underlying3 k1
    obtain ⟨r0, r1, n3, _, _, l0, l1⟩ := trod_struct2 hta k0
    rw [c0, b0, cellsInt] at l0
    rw [c1, b1, cellsInt] at l1
    obtain ⟨xn, hxn, _, _⟩ := DataW.trod_int Tryz.underlying3 l0
    obtain ⟨xw, hxw, _, _⟩ := DataW.trod_int Tryz.underlying3 l1
    obtain ⟨q0, q1, n4, _, _, m0, m1⟩ := trod_struct2 hsh k2
    rw [i0, e0, cellsInt] at m0
    rw [i1, e1, cellsStr] at m1
    obtain ⟨xa, hxa, _, _⟩ := DataW.trod_int Tryz.underlying3 m0
    obtain ⟨xt, hxt, _, hzt⟩ := DataW.trod_string Tryz.underlying9 m1
    simp at hs0 hs1 hx3 hxs hxn hxw hxa hxt
    subst hs0 hs1 hx3 hxs hxn hxw hxa hxt
    have hb := bounds_i64 hw3
    exact ⟨⟨s0, s1, ⟨xn, xw, xs, xa, xt⟩, x3⟩, rfl, hz1, hzt, hb.1, hb.2⟩
set_option maxRecDepth 100000 in
theorem acts_arg {H : Type} {enc : TypeId × Value → H} {W : World} {base : Nat} {v : Value} {d : DataW H} {ps : List MemPlace} (hok : Value.okWide Tryz.prog W .any base 34 v)
    (h : DataW.Trod enc Tryz.prog W 0 (fun _ => true) true 34 v d ps) : ∃ p l cap, v = .slice p l.length cap ∧ Rec actE W p l ∧ l.length ≤ maxLen ∧ ∀ i, i < l.length → (actAt l i).key.size ≤ maxLen ∧ (actAt l i).v.text.size ≤ maxLen ∧ -9223372036854775808 ≤ (actAt l i).n ∧ (actAt l i).n ≤ 9223372036854775807 := by
  obtain ⟨a0, len0, cap0, rfl⟩ := okWide_slice Tryz.underlying34 hok
  obtain ⟨fuel, hf⟩ := h
  rcases Deep.open_slice Tryz.underlying34 hf with ⟨hcs, _⟩ | ⟨a, len, cp, m, nn, D, Pl, hcs, _, hle, hcm, hm, _, hx⟩
  · simp [Value.cells] at hcs
    obtain ⟨rfl, rfl, rfl⟩ := hcs
    exact ⟨none, [], 0, rfl, Or.inl rfl, Nat.zero_le _, fun i hi => absurd hi (Nat.not_lt_zero _)⟩
  · simp [Value.cells] at hcs
    obtain ⟨rfl, rfl, rfl⟩ := hcs
    have hlm : len0 ≤ m := by rw [hm]; split <;> omega
    have hv : ∀ i, ∃ x : HAct, i < len0 → (∀ j u, (actC x)[j]? = some u → W.cell? ((a.add (i * 8)).add j) = some u) ∧ ActFits x := fun i => by
      by_cases hi : i < len0
      · obtain ⟨cs', h1, h2⟩ := hx i (by omega)
        obtain ⟨x, hcx, hfx⟩ := act_elem h2
        rw [cellsAct] at h1
        obtain ⟨_, hlen, hcell⟩ := World.cells?_some h1
        refine ⟨x, fun _ => ⟨fun j u hj => ?_, hfx⟩⟩
        have hj8 : j < 8 := (List.getElem?_eq_some_iff.1 hj).1
        have := hcell j (by omega)
        rw [this, hcx]
        exact hj
      · exact ⟨⟨⟨#[]⟩, ⟨#[]⟩, ⟨0, 0, 0, 0, ⟨#[]⟩⟩, 0⟩, fun h => absurd h hi⟩
    have hlen : ((List.range len0).map fun i => Classical.choose (hv i)).length = len0 := by simp
    have hat : ∀ i, i < len0 → ((List.range len0).map fun i => Classical.choose (hv i))[i]? = some (Classical.choose (hv i)) := fun i hi => by
      rw [List.getElem?_map, List.getElem?_range hi]
      rfl
    refine ⟨some a, (List.range len0).map fun i => Classical.choose (hv i), cap0, by rw [hlen], ?_, by rw [hlen]; omega, fun i hi => ?_⟩
    · by_cases h0 : len0 = 0
      · exact Or.inl (List.length_eq_zero_iff.1 (by rw [hlen]; exact h0))
      · obtain ⟨u0, hx0⟩ : ∃ u, W.cell? ((a.add (0 * 8)).add 0) = some u := ⟨_, (Classical.choose_spec (hv 0) (by omega)).1 0 _ rfl⟩
        obtain ⟨b, off, sp⟩ := a
        have hsp : sp = none := by
          cases sp with
          | none => rfl
          | some q =>
            exfalso
            simp [Addr.add, World.cell?] at hx0
            revert hx0
            split <;> intro h9 <;> cases h9
        subst hsp
        refine Or.inr ⟨b, off, rfl, lt_of_cellH (by rw [Addr.add_lit, Addr.add_lit] at hx0; exact hx0), fun i x hxi j u hj => ?_⟩
        have hi : i < len0 := by have := (List.getElem?_eq_some_iff.1 hxi).1; rw [hlen] at this; exact this
        rw [hat i hi] at hxi
        have e := Option.some.inj hxi
        have hc := (Classical.choose_spec (hv i) hi).1 j u (by rw [e]; exact hj)
        rw [Addr.add_lit, Addr.add_lit] at hc
        exact hc
    · rw [hlen] at hi
      have hc := (Classical.choose_spec (hv i) hi).2
      have e := actAt_get (l := (List.range len0).map fun i => Classical.choose (hv i)) (i := i) (by rw [hlen]; exact hi)
      rw [hat i hi] at e
      rw [← Option.some.inj e]
      exact hc
end Go.Proofs.YtoapbjifkjehhaaGreatDoor
