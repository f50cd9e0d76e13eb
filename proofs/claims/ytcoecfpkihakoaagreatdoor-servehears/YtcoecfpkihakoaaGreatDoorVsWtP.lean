/- Versions that came in, whatever they weigh: no text and no list has more bytes than memory. -/
import Derived.Test.YtcoecfpkihakoaaGreatDoorGz6
import Derived.ProofKit
import Derived.OpenShut
import Derived.ChangeOld
import Derived.Deep.SlicePairs
import Derived.Lib.SmallJoins
namespace Go.Proofs.YtcoecfpkihakoaaGreatDoor
open Go.ChangeShapes Go.WideShapes Go.ChangeAt Go.RowKit
theorem vCellsInt : Tryz.prog.cellsOf 3 = 1 := by kernel_rfl
theorem qVerFields : ∃ f0 f1 f2, Tryz.prog.underlying 59 = some (.struct #[f0, f1, f2]) ∧ f0.offset = 0 ∧ f1.offset = 2 ∧ f2.offset = 3 ∧ f0.type = 55 ∧ f1.type = 3 ∧ f2.type = 57 := ⟨_, _, _, Tryz.underlying59, rfl, rfl, rfl, rfl, rfl, rfl⟩
theorem qTagFields : ∃ f0 f1, Tryz.prog.underlying 55 = some (.struct #[f0, f1]) ∧ f0.offset = 0 ∧ f1.offset = 1 ∧ f0.type = 3 ∧ f1.type = 3 := ⟨_, _, Tryz.underlying55, rfl, rfl, rfl, rfl⟩
theorem qShardFields : ∃ f0 f1, Tryz.prog.underlying 57 = some (.struct #[f0, f1]) ∧ f0.offset = 0 ∧ f1.offset = 1 ∧ f0.type = 3 ∧ f1.type = 9 := ⟨_, _, Tryz.underlying57, rfl, rfl, rfl, rfl⟩
theorem qCellsVer : Tryz.prog.cellsOf 59 = 5 := by kernel_rfl
theorem qCellsTag : Tryz.prog.cellsOf 55 = 2 := by kernel_rfl
theorem qCellsShard : Tryz.prog.cellsOf 57 = 2 := by kernel_rfl
theorem qCellsStr : Tryz.prog.cellsOf 9 = 1 := by kernel_rfl
theorem qCellsVers : Tryz.prog.cellsOf 40 = 1 := by kernel_rfl
theorem wBytesVer : Tryz.prog.bytesOf 59 = 48 := by kernel_rfl
/-- What a reading weighs, each text and each list by itself. -/
def WtOk {H : Type} (t : TypeId) (d : DataW H) : Prop := (d.weights Tryz.prog t).all (· ≤ reachBytes) = true
theorem wt_str {H : Type} {t : TypeId} {l : List UInt8} (h : WtOk (H := H) t (.lit (.string l))) : l.length ≤ 140737488351232 := by
  unfold WtOk at h
  simp only [DataW.weights, List.all_cons, List.all_nil, Bool.and_true] at h
  exact of_decide_eq_true h
theorem wt_str' {H : Type} {t : TypeId} {s : ByteArray} (h : WtOk (H := H) t (.lit (.string s.data.toList))) : s.size ≤ 140737488351232 := by
  have e : s.data.toList.length = s.size := by simp
  have := wt_str h
  omega
theorem wt_each {H : Type} : ∀ {ts : List TypeId} {ds : List (DataW H)} {i : Nat} {t : TypeId} {d : DataW H}, (DataW.weightsEach Tryz.prog ts ds).all (· ≤ reachBytes) = true → ts[i]? = some t → ds[i]? = some d → WtOk t d
  | [], _, _, _, _, _, ht, _ => by cases ht
  | _ :: _, [], _, _, _, _, _, hd => by cases hd
  | t0 :: ts, d0 :: ds, 0, t, d, h, ht, hd => by
    simp only [DataW.weightsEach, List.all_append, Bool.and_eq_true] at h
    simp only [List.getElem?_cons_zero, Option.some.injEq] at ht hd
    subst ht hd
    exact h.1
  | t0 :: ts, d0 :: ds, i + 1, t, d, h, ht, hd => by
    simp only [DataW.weightsEach, List.all_append, Bool.and_eq_true] at h
    simp only [List.getElem?_cons_succ] at ht hd
    exact wt_each h.2 ht hd
theorem wt_agg {H : Type} {t : TypeId} {fs : Array Field} {parts : List (DataW H)} (hu : Tryz.prog.underlying t = some (.struct fs)) (h : WtOk t (.agg parts)) {i : Nat} {f : Field} {d : DataW H} (hf : fs[i]? = some f) (hd : parts[i]? = some d) : WtOk f.type d := by
  unfold WtOk at h
  simp only [DataW.weights, hu] at h
  exact wt_each (i := i) h (by rw [List.getElem?_map, Array.getElem?_toList, hf]; rfl) hd
theorem wt_all {H : Type} {e : TypeId} : ∀ {l : List (DataW H)}, (DataW.weightsAll Tryz.prog e l).all (· ≤ reachBytes) = true → ∀ d ∈ l, WtOk e d
  | [], _, _, hd => by cases hd
  | x :: r, h, d, hd => by
    simp only [DataW.weightsAll, List.all_append, Bool.and_eq_true] at h
    rcases List.mem_cons.1 hd with e | e
    · subst e; exact h.1
    · exact wt_all h.2 d e
theorem wt_slice {H : Type} {t e : TypeId} {es sp : List (DataW H)} (hu : Tryz.prog.underlying t = some (.slice e)) (h : WtOk t (.slice es sp)) : (es.length + sp.length) * Tryz.prog.bytesOf e ≤ 140737488351232 ∧ ∀ d ∈ es, WtOk e d := by
  unfold WtOk at h
  simp only [DataW.weights, hu, List.all_cons, List.all_append, Bool.and_eq_true] at h
  exact ⟨of_decide_eq_true h.1, wt_all h.2.1⟩
set_option maxRecDepth 100000 in
theorem ver_elemW {H : Type} {enc : TypeId × Value → H} {W : World} {fuel : Nat} {cs : List Value} {y : DataW H × List MemPlace} (h : DataW.trod enc Tryz.prog W 0 (fun _ => true) true fuel 59 cs = some y) : ∃ x : Ver, cs = verC x ∧ VerI64 x ∧ (WtOk 59 y.1 → x.text.size ≤ 140737488351232) := by
  obtain ⟨g0, g1, g2, hsv, p0, p1, p2, u0, u1, u2⟩ := qVerFields
  obtain ⟨a0, a1, hta, b0, b1, c0, c1⟩ := qTagFields
  obtain ⟨d0, d1, hsh, e0, e1, i0, i1⟩ := qShardFields
  obtain ⟨z0, z1, z2, n2, rfl, hlen, k0, k1, k2⟩ := Deep.trod_struct3 hsv h
  rw [qCellsVer] at hlen
  match cs, hlen with
  | [v0, v1, v2, v3, v4], _ =>
    rw [u0, p0, qCellsTag] at k0
    rw [u1, p1, vCellsInt] at k1
    rw [u2, p2, qCellsShard] at k2
    obtain ⟨xs, hxs, _, ws⟩ := DataW.trod_int Tryz.underlying3 k1
    obtain ⟨r0, r1, n3, _, _, l0, l1⟩ := trod_struct2 hta k0
    rw [c0, b0, vCellsInt] at l0
    rw [c1, b1, vCellsInt] at l1
    obtain ⟨xn, hxn, _, wn⟩ := DataW.trod_int Tryz.underlying3 l0
    obtain ⟨xw, hxw, _, ww⟩ := DataW.trod_int Tryz.underlying3 l1
    obtain ⟨q0, q1, n4, hz2, _, m0, m1⟩ := trod_struct2 hsh k2
    rw [i0, e0, vCellsInt] at m0
    rw [i1, e1, qCellsStr] at m1
    obtain ⟨xa, hxa, _, wa⟩ := DataW.trod_int Tryz.underlying3 m0
    obtain ⟨xt, hxt, hq1, hzt⟩ := DataW.trod_string Tryz.underlying9 m1
    simp at hxs hxn hxw hxa hxt
    subst hxs hxn hxw hxa hxt
    refine ⟨⟨xn, xw, xs, xa, xt⟩, rfl, ⟨bounds_i64 wn, bounds_i64 ww, bounds_i64 ws, bounds_i64 wa⟩, fun hw => ?_⟩
    have h1 : WtOk g2.type z2.1 := wt_agg (i := 2) hsv (show WtOk 59 (DataW.agg [z0.1, z1.1, z2.1]) from hw) rfl rfl
    rw [u2, hz2] at h1
    have h2 : WtOk d1.type q1.1 := wt_agg (i := 1) hsh (show WtOk 57 (DataW.agg [q0.1, q1.1]) from h1) rfl rfl
    rw [hq1] at h2
    exact wt_str' h2
set_option maxRecDepth 100000 in
/-- A list of versions that came in. -/
theorem vers_argW {H : Type} {enc : TypeId × Value → H} {W : World} {fuel : Nat} {v : Value} {y : DataW H × List MemPlace} (h : DataW.trod enc Tryz.prog W 0 (fun _ => true) true fuel 40 [v] = some y) :
    ∃ p l cap, v = .slice p l.length cap ∧ Rec verE W p l ∧ l.length ≤ cap ∧ (p = none → l = [] ∧ cap = 0) ∧ (∀ x ∈ l, VerI64 x) ∧ (WtOk 40 y.1 → l.length ≤ 2932031007317 ∧ ∀ x ∈ l, x.text.size ≤ 140737488351232) := by
  rcases Deep.open_slice Tryz.underlying40 h with ⟨hcs, _⟩ | ⟨a, len0, cap0, m0, nn, D, Pl, hcs, _, hle, hcm, hm, hy, hx⟩
  · simp at hcs
    subst hcs
    exact ⟨none, [], 0, rfl, Or.inl rfl, Nat.le_refl _, fun _ => ⟨rfl, rfl⟩, (fun x hx => by cases hx), fun _ => ⟨Nat.zero_le _, fun x hx => by cases hx⟩⟩
  · simp at hcs
    subst hcs
    have hlm : len0 ≤ m0 := by rw [hm]; split <;> omega
    have hsub : WtOk 40 y.1 → len0 * 48 ≤ 140737488351232 ∧ ∀ i, i < len0 → WtOk 59 (D i) := fun hw => by
      rw [hy] at hw
      obtain ⟨h1, h2⟩ := wt_slice Tryz.underlying40 hw
      rw [wBytesVer, List.length_map, List.length_range] at h1
      exact ⟨by omega, fun i hi => h2 _ (List.mem_map.2 ⟨i, List.mem_range.2 hi, rfl⟩)⟩
    have hv : ∀ i, ∃ x : Ver, i < len0 → (∀ j u, (verC x)[j]? = some u → W.cell? ((a.add (i * 5)).add j) = some u) ∧ VerI64 x ∧ (WtOk 59 (D i) → x.text.size ≤ 140737488351232) := fun i => by
      by_cases hi : i < len0
      · obtain ⟨cs', h1, h2⟩ := hx i (by omega)
        obtain ⟨x, hcx, hfx, hbx⟩ := ver_elemW h2
        rw [qCellsVer] at h1
        obtain ⟨_, hlen, hcell⟩ := World.cells?_some h1
        refine ⟨x, fun _ => ⟨fun j u hj => ?_, hfx, hbx⟩⟩
        have hj8 : j < 5 := (List.getElem?_eq_some_iff.1 hj).1
        have := hcell j (by omega)
        rw [this, hcx]
        exact hj
      · exact ⟨⟨0, 0, 0, 0, ⟨#[]⟩⟩, fun h => absurd h hi⟩
    have hlen : ((List.range len0).map fun i => Classical.choose (hv i)).length = len0 := by simp
    have hat : ∀ i, i < len0 → ((List.range len0).map fun i => Classical.choose (hv i))[i]? = some (Classical.choose (hv i)) := fun i hi => by
      rw [List.getElem?_map, List.getElem?_range hi]
      rfl
    refine ⟨some a, (List.range len0).map fun i => Classical.choose (hv i), cap0, by rw [hlen], ?_, by rw [hlen]; omega, (fun e => by cases e), fun x hxm => ?_, fun hw => ⟨by rw [hlen]; have := (hsub hw).1; omega, fun x hxm => ?_⟩⟩
    · by_cases h0 : len0 = 0
      · exact Or.inl (List.length_eq_zero_iff.1 (by rw [hlen]; exact h0))
      · obtain ⟨u0, hx0⟩ : ∃ u, W.cell? ((a.add (0 * 5)).add 0) = some u := ⟨_, (Classical.choose_spec (hv 0) (by omega)).1 0 _ rfl⟩
        obtain ⟨b, off, sp⟩ := a
        have hsp : sp = none := by
          cases sp with
          | none => rfl
          | some q =>
            exfalso
            simp [Addr.add, World.cell?] at hx0
            revert hx0
            split <;> intro h9 <;> cases h9
        subst hsp
        refine Or.inr ⟨b, off, rfl, ?_, fun i x hxi j u hj => ?_⟩
        · rw [Addr.add_lit, Addr.add_lit] at hx0
          rcases Nat.lt_or_ge b W.heap.size with h' | h'
          · exact h'
          · simp [World.cell?, Array.getElem?_eq_none h'] at hx0
        · have hi : i < len0 := by have := (List.getElem?_eq_some_iff.1 hxi).1; rw [hlen] at this; exact this
          rw [hat i hi] at hxi
          have e := Option.some.inj hxi
          have hc := (Classical.choose_spec (hv i) hi).1 j u (by rw [e]; exact hj)
          rw [Addr.add_lit, Addr.add_lit] at hc
          exact hc
    · obtain ⟨i, hi, rfl⟩ := List.mem_map.1 hxm
      exact (Classical.choose_spec (hv i) (List.mem_range.1 hi)).2.1
    · obtain ⟨i, hi, rfl⟩ := List.mem_map.1 hxm
      exact (Classical.choose_spec (hv i) (List.mem_range.1 hi)).2.2 ((hsub hw).2 i (List.mem_range.1 hi))
set_option maxRecDepth 100000 in
/-- A version that came in. -/
theorem ver_argW {H : Type} {enc : TypeId × Value → H} {W : World} {base : Nat} {v : Value} {d : DataW H} {ps : List MemPlace} (hok : Value.okWide Tryz.prog W .any base 59 v) (h : DataW.Trod enc Tryz.prog W 0 (fun _ => true) true 59 v d ps) :
    ∃ x : Ver, v = .agg #[.int .i64 x.n, .int .i64 x.who, .int .i64 x.size, .int .i64 x.at_, .string x.text] := by
  obtain ⟨f0, f1, f2, hst, _⟩ := qVerFields
  obtain ⟨cs, rfl, _⟩ := okWide_struct hst hok
  obtain ⟨fuel, hf⟩ := h
  obtain ⟨x, hx, _⟩ := ver_elemW hf
  refine ⟨x, ?_⟩
  have e : cs.toList = verC x := by
    have e0 : (Value.agg cs).cells.toList = cs.toList := by simp [Value.cells]
    rw [← e0]
    exact hx
  have : cs = (verC x).toArray := by rw [← e]
  rw [this]
  rfl
end Go.Proofs.YtcoecfpkihakoaaGreatDoor
