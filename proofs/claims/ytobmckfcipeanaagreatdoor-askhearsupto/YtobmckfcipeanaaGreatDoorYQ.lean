import Derived.Test.YtobmckfcipeanaaGreatDoorZN
import Derived.ProofKit
import Derived.OpenShut
import Derived.ChangeOld
import Derived.Deep.SlicePairs
import Derived.Deep.Strs
import Derived.Lib.SmallJoins
import Derived.Test.YtobmckfcipeanaaGreatDoorZL
namespace Go.Proofs.YtobmckfcipeanaaGreatDoor
open Go.ChangeShapes Go.WideShapes Go.ChangeAt Go.RowKit
theorem qCfgFields : ∃ f0 f1 f2, Tryz.prog.underlying 24 = some (.struct #[f0, f1, f2]) /\ f0.offset = 0 /\ f1.offset = 1 /\ f2.offset = 2 /\ f0.type = 3 /\ f1.type = 3 /\ f2.type = 22 := ⟨_, _, _, Tryz.underlying24, rfl, rfl, rfl, rfl, rfl, rfl⟩
theorem qCellsInt : Tryz.prog.cellsOf 3 = 1 := by kernel_rfl
theorem qCellsStrs : Tryz.prog.cellsOf 22 = 1 := by kernel_rfl
theorem qCellsCfg : Tryz.prog.cellsOf 24 = 3 := by kernel_rfl
set_option maxRecDepth 100000 in
theorem strs_arg8 {H : Type} {enc : TypeId × Value -> H} {W : World} {fuel : Nat} {v : Value} {y : DataW H × List MemPlace} (h : DataW.trod enc Tryz.prog W 0 (fun _ => true) true fuel 22 [v] = some y) : ∃ p l cap, v = .slice p l.length cap /\ TxsIn W l p cap := by
 rcases Deep.open_strs Tryz.underlying22 Tryz.underlying9 (by kernel_rfl) h with ⟨hcs, _⟩ | ⟨a, len0, cap0, m, Sx, hcs, _, hle, hcm, hm, hd, hx⟩
 ·simp at hcs
  subst hcs
  exact ⟨none, [], 0, rfl, ⟨Or.inl rfl, Nat.le_refl _, fun _ => ⟨rfl, rfl⟩, Nat.zero_le _, fun x hx => by cases hx⟩⟩
 ·simp at hcs
  subst hcs
  have hlm : len0 <= m := by rw [hm]; split <;> omega
  have hlen : ((List.range len0).map Sx).length = len0 := by simp
  have hat : ∀ i, i < len0 -> txt ((List.range len0).map Sx) i = Sx i := fun i hi => by
   rw [txt_getElem _ i (by rw [hlen]; exact hi)]
   simp
  refine ⟨some a, (List.range len0).map Sx, cap0, by rw [hlen], ⟨?_, by rw [hlen]; exact hle, (fun e => by cases e), by rw [hlen]; omega, fun x hxm => ?_⟩⟩
  ·by_cases h0 : len0 = 0
   ·exact Or.inl (List.length_eq_zero_iff.1 (by rw [hlen]; exact h0))
   ·have hx0 := (hx 0 (by omega)).1
    obtain ⟨b, off, sp⟩ := a
    have hsp : sp = none := by
     cases sp with
     | none => rfl
     | some q =>
      exfalso
      simp [Addr.add, World.cell?] at hx0
      revert hx0
      split <;> intro h9 <;> cases h9
    subst hsp
    refine Or.inr ⟨b, off, rfl, ?_, fun i hi => ?_⟩
    ·rw [Addr.add_lit] at hx0
     rcases Nat.lt_or_ge b W.heap.size with h' | h'
     ·exact h'
     ·simp [World.cell?, Array.getElem?_eq_none h'] at hx0
    ·rw [hlen] at hi
     have := (hx i (by omega)).1
     rw [Addr.add_lit] at this
     rw [hat i hi]
     exact this
  ·obtain ⟨i, hi, rfl⟩ := List.mem_map.1 hxm
   exact (hx i (by have := List.mem_range.1 hi; omega)).2
end Go.Proofs.YtobmckfcipeanaaGreatDoor
namespace Go.Proofs.YtobmckfcipeanaaGreatDoor
open Go.ChangeShapes Go.WideShapes Go.ChangeAt Go.RowKit
theorem qVerFields : ∃ f0 f1 f2, Tryz.prog.underlying 69 = some (.struct #[f0, f1, f2]) /\ f0.offset = 0 /\ f1.offset = 2 /\ f2.offset = 3 /\ f0.type = 46 /\ f1.type = 3 /\ f2.type = 67 := ⟨_, _, _, Tryz.underlying69, rfl, rfl, rfl, rfl, rfl, rfl⟩
theorem qTagFields : ∃ f0 f1, Tryz.prog.underlying 46 = some (.struct #[f0, f1]) /\ f0.offset = 0 /\ f1.offset = 1 /\ f0.type = 3 /\ f1.type = 3 := ⟨_, _, Tryz.underlying46, rfl, rfl, rfl, rfl⟩
theorem qShardFields : ∃ f0 f1, Tryz.prog.underlying 67 = some (.struct #[f0, f1]) /\ f0.offset = 0 /\ f1.offset = 1 /\ f0.type = 3 /\ f1.type = 9 := ⟨_, _, Tryz.underlying67, rfl, rfl, rfl, rfl⟩
theorem qCellsVer : Tryz.prog.cellsOf 69 = 5 := by kernel_rfl
theorem qCellsTag : Tryz.prog.cellsOf 46 = 2 := by kernel_rfl
theorem qCellsShard : Tryz.prog.cellsOf 67 = 2 := by kernel_rfl
theorem qCellsStr : Tryz.prog.cellsOf 9 = 1 := by kernel_rfl
theorem qCellsVers : Tryz.prog.cellsOf 55 = 1 := by kernel_rfl
structure IsBulk {H : Type} (m : DataW H -> Nat) : Prop where
 one : ∀ d, 1 <= m d
 str : ∀ l : List UInt8, l.length <= m (.lit (.string l))
 agg : ∀ l : List (DataW H), (l.map m).sum <= m (.agg l)
 slice : ∀ es sp : List (DataW H), (es.map m).sum <= m (.slice es sp)
theorem sum_range_le {f g : Nat -> Nat} : ∀ n, (∀ i, i < n -> f i <= g i) -> ((List.range n).map f).sum <= ((List.range n).map g).sum
 | 0, _ => Nat.le_refl _
 | n + 1, h => by
  have ih := sum_range_le n (fun i hi => h i (by omega))
  have := h n (by omega)
  simp only [List.range_succ, List.map_append, List.sum_append, List.map_cons, List.map_nil, List.sum_cons, List.sum_nil]
  omega
theorem mem_sum_le {α : Type} {f : α -> Nat} {l : List α} {x : α} (h : x ∈ l) : f x <= (l.map f).sum := by
 induction l with
 | nil => cases h
 | cons y r ih =>
  rw [List.map_cons, List.sum_cons]
  cases List.mem_cons.1 h with
  | inl e => subst e; omega
  | inr e => have := ih e; omega
theorem IsBulk.str' {H : Type} {m : DataW H -> Nat} (hb : IsBulk m) (s : ByteArray) : s.size <= m (.lit (.string s.data.toList)) := by
 have e : s.data.toList.length = s.size := by simp
 have := hb.str s.data.toList
 omega
theorem IsBulk.agg' {H : Type} {m : DataW H -> Nat} (hb : IsBulk m) {d : DataW H} {l : List (DataW H)} (h : d ∈ l) : m d <= m (.agg l) := Nat.le_trans (mem_sum_le h) (hb.agg l)
set_option maxRecDepth 100000 in
theorem ver_elem8 {H : Type} {m : DataW H -> Nat} (hb : IsBulk m) {enc : TypeId × Value -> H} {W : World} {fuel : Nat} {cs : List Value} {y : DataW H × List MemPlace} (h : DataW.trod enc Tryz.prog W 0 (fun _ => true) true fuel 69 cs = some y) : ∃ x : Ver, cs = verC x /\ VerI64 x /\ 1 + x.text.size / 20 <= m y.1 := by
 obtain ⟨g0, g1, g2, hsv, p0, p1, p2, u0, u1, u2⟩ := qVerFields
 obtain ⟨a0, a1, hta, b0, b1, c0, c1⟩ := qTagFields
 obtain ⟨d0, d1, hsh, e0, e1, i0, i1⟩ := qShardFields
 obtain ⟨z0, z1, z2, n2, rfl, hlen, k0, k1, k2⟩ := Deep.trod_struct3 hsv h
 rw [qCellsVer] at hlen
 match cs, hlen with
 | [v0, v1, v2, v3, v4], _ =>
  rw [u0, p0, qCellsTag] at k0
  rw [u1, p1, qCellsInt] at k1
  rw [u2, p2, qCellsShard] at k2
  obtain ⟨xs, hxs, _, ws⟩ := DataW.trod_int Tryz.underlying3 k1
  obtain ⟨r0, r1, n3, _, _, l0, l1⟩ := trod_struct2 hta k0
  rw [c0, b0, qCellsInt] at l0
  rw [c1, b1, qCellsInt] at l1
  obtain ⟨xn, hxn, _, wn⟩ := DataW.trod_int Tryz.underlying3 l0
  obtain ⟨xw, hxw, _, ww⟩ := DataW.trod_int Tryz.underlying3 l1
  obtain ⟨q0, q1, n4, hz2, _, m0, m1⟩ := trod_struct2 hsh k2
  rw [i0, e0, qCellsInt] at m0
  rw [i1, e1, qCellsStr] at m1
  obtain ⟨xa, hxa, _, wa⟩ := DataW.trod_int Tryz.underlying3 m0
  obtain ⟨xt, hxt, hq1, hzt⟩ := DataW.trod_string Tryz.underlying9 m1
  simp at hxs hxn hxw hxa hxt
  subst hxs hxn hxw hxa hxt
  refine ⟨⟨xn, xw, xs, xa, xt⟩, rfl, ⟨bounds_i64 wn, bounds_i64 ww, bounds_i64 ws, bounds_i64 wa⟩, ?_⟩
  have h0 := hb.one (DataW.agg (H := H) [z0.1, z1.1, z2.1])
  have h1 := hb.str' xt
  have h2 : m q1.1 <= m (.agg [q0.1, q1.1]) := hb.agg' (by simp)
  have h3 : m z2.1 <= m (.agg [z0.1, z1.1, z2.1]) := hb.agg' (by simp)
  have e1 : m q1.1 = m (DataW.lit (H := H) (.string xt.data.toList)) := by rw [hq1]
  have e2 : m z2.1 = m (.agg [q0.1, q1.1]) := by rw [hz2]
  show 1 + xt.size / 20 <= m (.agg [z0.1, z1.1, z2.1])
  omega
set_option maxRecDepth 100000 in
theorem vers_arg8 {H : Type} {m : DataW H -> Nat} (hb : IsBulk m) {enc : TypeId × Value -> H} {W : World} {fuel : Nat} {v : Value} {y : DataW H × List MemPlace} (h : DataW.trod enc Tryz.prog W 0 (fun _ => true) true fuel 55 [v] = some y) :
 ∃ p l cap, v = .slice p l.length cap /\ Rec verE W p l /\ l.length <= cap /\ (p = none -> l = [] /\ cap = 0) /\ (∀ x ∈ l, VerI64 x) /\ tolN l <= m y.1 := by
 rcases Deep.open_slice Tryz.underlying55 h with ⟨hcs, _⟩ | ⟨a, len0, cap0, m0, nn, D, Pl, hcs, _, hle, hcm, hm, hy, hx⟩
 ·simp at hcs
  subst hcs
  exact ⟨none, [], 0, rfl, Or.inl rfl, Nat.le_refl _, fun _ => ⟨rfl, rfl⟩, (fun x hx => by cases hx), Nat.zero_le _⟩
 ·simp at hcs
  subst hcs
  have hlm : len0 <= m0 := by rw [hm]; split <;> omega
  have hsum : ((List.range len0).map fun i => m (D i)).sum <= m y.1 := by
   rw [hy]
   have h1 := hb.slice ((List.range len0).map D)
   simp only [List.map_map] at h1
   exact h1 _
  have hv : ∀ i, ∃ x : Ver, i < len0 -> (∀ j u, (verC x)[j]? = some u -> W.cell? ((a.add (i * 5)).add j) = some u) /\ VerI64 x /\ 1 + x.text.size / 20 <= m (D i) := fun i => by
   by_cases hi : i < len0
   ·obtain ⟨cs', h1, h2⟩ := hx i (by omega)
    obtain ⟨x, hcx, hfx, hbx⟩ := ver_elem8 hb h2
    rw [qCellsVer] at h1
    obtain ⟨_, hlen, hcell⟩ := World.cells?_some h1
    refine ⟨x, fun _ => ⟨fun j u hj => ?_, hfx, hbx⟩⟩
    have hj8 : j < 5 := (List.getElem?_eq_some_iff.1 hj).1
    have := hcell j (by omega)
    rw [this, hcx]
    exact hj
   ·exact ⟨⟨0, 0, 0, 0, ⟨#[]⟩⟩, fun h => absurd h hi⟩
  have hlen : ((List.range len0).map fun i => Classical.choose (hv i)).length = len0 := by simp
  have hat : ∀ i, i < len0 -> ((List.range len0).map fun i => Classical.choose (hv i))[i]? = some (Classical.choose (hv i)) := fun i hi => by
   rw [List.getElem?_map, List.getElem?_range hi]
   rfl
  refine ⟨some a, (List.range len0).map fun i => Classical.choose (hv i), cap0, by rw [hlen], ?_, by rw [hlen]; omega, (fun e => by cases e), fun x hxm => ?_, ?_⟩
  ·by_cases h0 : len0 = 0
   ·exact Or.inl (List.length_eq_zero_iff.1 (by rw [hlen]; exact h0))
   ·obtain ⟨u0, hx0⟩ : ∃ u, W.cell? ((a.add (0 * 5)).add 0) = some u := ⟨_, (Classical.choose_spec (hv 0) (by omega)).1 0 _ rfl⟩
    obtain ⟨b, off, sp⟩ := a
    have hsp : sp = none := by
     cases sp with
     | none => rfl
     | some q =>
      exfalso
      simp [Addr.add, World.cell?] at hx0
      revert hx0
      split <;> intro h9 <;> cases h9
    subst hsp
    refine Or.inr ⟨b, off, rfl, ?_, fun i x hxi j u hj => ?_⟩
    ·rw [Addr.add_lit, Addr.add_lit] at hx0
     rcases Nat.lt_or_ge b W.heap.size with h' | h'
     ·exact h'
     ·simp [World.cell?, Array.getElem?_eq_none h'] at hx0
    ·have hi : i < len0 := by have := (List.getElem?_eq_some_iff.1 hxi).1; rw [hlen] at this; exact this
     rw [hat i hi] at hxi
     have e := Option.some.inj hxi
     have hc := (Classical.choose_spec (hv i) hi).1 j u (by rw [e]; exact hj)
     rw [Addr.add_lit, Addr.add_lit] at hc
     exact hc
  ·obtain ⟨i, hi, rfl⟩ := List.mem_map.1 hxm
   exact (Classical.choose_spec (hv i) (List.mem_range.1 hi)).2.1
  ·refine Nat.le_trans ?_ hsum
   unfold tolN
   rw [List.map_map]
   exact sum_range_le len0 fun i hi => (Classical.choose_spec (hv i) hi).2.2
end Go.Proofs.YtobmckfcipeanaaGreatDoor
