/- A message that came in. -/
import Derived.Test.YteppmkpckdmnaaaDoorRows
import Derived.Test.YteppmkpckdmnaaaDoorWireCW
import Derived.ProofKit
import Derived.OpenShut
import Derived.ChangeOld
import Derived.Deep.SlicePairs
import Derived.Lib.SmallJoins
namespace Go.Proofs.YteppmkpckdmnaaaDoor
open Go.ChangeShapes Go.WideShapes Go.ChangeAt Go.RowKit
theorem msgLaidOut : laidOutB Tryd.prog = true := by kernel_rfl
theorem mVerFields : ∃ f0 f1 f2, Tryd.prog.underlying 50 = some (.struct #[f0, f1, f2]) ∧ f0.offset = 0 ∧ f1.offset = 2 ∧ f2.offset = 3 ∧ f0.type = 48 ∧ f1.type = 3 ∧ f2.type = 46 := ⟨_, _, _, Tryd.underlying50, rfl, rfl, rfl, rfl, rfl, rfl⟩
theorem mTagFields : ∃ f0 f1, Tryd.prog.underlying 48 = some (.struct #[f0, f1]) ∧ f0.offset = 0 ∧ f1.offset = 1 ∧ f0.type = 3 ∧ f1.type = 3 := ⟨_, _, Tryd.underlying48, rfl, rfl, rfl, rfl⟩
theorem mShardFields : ∃ f0 f1, Tryd.prog.underlying 46 = some (.struct #[f0, f1]) ∧ f0.offset = 0 ∧ f1.offset = 1 ∧ f0.type = 3 ∧ f1.type = 9 := ⟨_, _, Tryd.underlying46, rfl, rfl, rfl, rfl⟩
theorem mCellsVer : Tryd.prog.cellsOf 50 = 5 := by kernel_rfl
theorem mCellsTag : Tryd.prog.cellsOf 48 = 2 := by kernel_rfl
theorem mCellsShard : Tryd.prog.cellsOf 46 = 2 := by kernel_rfl
theorem mCellsInt : Tryd.prog.cellsOf 3 = 1 := by kernel_rfl
theorem mCellsStr : Tryd.prog.cellsOf 9 = 1 := by kernel_rfl
theorem mCellsBool : Tryd.prog.cellsOf 4 = 1 := by kernel_rfl
theorem mCellsVers : Tryd.prog.cellsOf 22 = 1 := by kernel_rfl
theorem mCellsMsg : Tryd.prog.cellsOf 24 = 8 := by kernel_rfl
theorem bulk_part {H : Type} {d : DataW H} {l : List (DataW H)} (h : d ∈ l) : Rows.uptoBulk d ≤ Rows.uptoBulkAll l := by
  induction l with
  | nil => cases h
  | cons x r ih =>
    simp only [Rows.uptoBulkAll]
    cases List.mem_cons.1 h with
    | inl e => subst e; omega
    | inr e => have := ih e; omega
theorem bulk_one {H : Type} (d : DataW H) : 1 ≤ Rows.uptoBulk d := by
  cases d with
  | lit l => cases l <;> simp [Rows.uptoBulk]
  | nil => simp [Rows.uptoBulk]
  | ptr d => simp [Rows.uptoBulk]
  | slice elems spare => simp [Rows.uptoBulk]
  | agg parts => simp [Rows.uptoBulk]
  | iface t d => simp [Rows.uptoBulk]
  | map entries => simp [Rows.uptoBulk]
  | held h => simp [Rows.uptoBulk]
theorem bulk_len {H : Type} (l : List (DataW H)) : l.length ≤ Rows.uptoBulkAll l := by
  induction l with
  | nil => simp [Rows.uptoBulkAll]
  | cons x r ih => have := bulk_one x; simp only [Rows.uptoBulkAll, List.length_cons]; omega
theorem bulk_agg {H : Type} {d : DataW H} {l : List (DataW H)} (h : d ∈ l) : Rows.uptoBulk d ≤ Rows.uptoBulk (.agg l) := by
  have := bulk_part h
  simp only [Rows.uptoBulk]
  omega
theorem bulk_str {H : Type} (s : ByteArray) : s.size ≤ Rows.uptoBulk (DataW.lit (H := H) (.string s.data.toList)) := by
  have e : s.data.toList.length = s.size := by simp
  simp only [Rows.uptoBulk]
  omega
/-- A version that fits. -/
def VerIn (v : Ver) : Prop := v.n ≤ 9223372036854775807 ∧ v.who ≤ 9223372036854775807 ∧ v.size ≤ 9223372036854775807 ∧ v.at_ ≤ 9223372036854775807 ∧ v.text.size ≤ 9223372036854775807
set_option maxRecDepth 100000 in
theorem ver_elem {H : Type} {enc : TypeId × Value → H} {W : World} {fuel : Nat} {cs : List Value} {y : DataW H × List MemPlace} (h : DataW.trod enc Tryd.prog W 0 (fun _ => true) true fuel 50 cs = some y) : ∃ x : Ver, cs = verC x ∧ VerIn x ∧ x.text.size ≤ Rows.uptoBulk y.1 := by
  obtain ⟨g0, g1, g2, hsv, p0, p1, p2, u0, u1, u2⟩ := mVerFields
  obtain ⟨a0, a1, hta, b0, b1, c0, c1⟩ := mTagFields
  obtain ⟨d0, d1, hsh, e0, e1, i0, i1⟩ := mShardFields
  obtain ⟨z0, z1, z2, n2, rfl, hlen, k0, k1, k2⟩ := Deep.trod_struct3 hsv h
  rw [mCellsVer] at hlen
  match cs, hlen with
  | [v0, v1, v2, v3, v4], _ =>
    rw [u0, p0, mCellsTag] at k0
    rw [u1, p1, mCellsInt] at k1
    rw [u2, p2, mCellsShard] at k2
    obtain ⟨xs, hxs, _, ws⟩ := DataW.trod_int Tryd.underlying3 k1
    obtain ⟨r0, r1, n3, _, _, l0, l1⟩ := trod_struct2 hta k0
    rw [c0, b0, mCellsInt] at l0
    rw [c1, b1, mCellsInt] at l1
    obtain ⟨xn, hxn, _, wn⟩ := DataW.trod_int Tryd.underlying3 l0
    obtain ⟨xw, hxw, _, ww⟩ := DataW.trod_int Tryd.underlying3 l1
    obtain ⟨q0, q1, n4, hz2, _, m0, m1⟩ := trod_struct2 hsh k2
    rw [i0, e0, mCellsInt] at m0
    rw [i1, e1, mCellsStr] at m1
    obtain ⟨xa, hxa, _, wa⟩ := DataW.trod_int Tryd.underlying3 m0
    obtain ⟨xt, hxt, hq1, hzt⟩ := DataW.trod_string Tryd.underlying9 m1
    simp at hxs hxn hxw hxa hxt
    subst hxs hxn hxw hxa hxt
    refine ⟨⟨xn, xw, xs, xa, xt⟩, rfl, ⟨(bounds_i64 wn).2, (bounds_i64 ww).2, (bounds_i64 ws).2, (bounds_i64 wa).2, by unfold maxLen at hzt; omega⟩, ?_⟩
    have h1 := bulk_str (H := H) xt
    have h2 : Rows.uptoBulk q1.1 ≤ Rows.uptoBulk (.agg [q0.1, q1.1]) := bulk_agg (by simp)
    have h3 : Rows.uptoBulk z2.1 ≤ Rows.uptoBulk (.agg [z0.1, z1.1, z2.1]) := bulk_agg (by simp)
    have e1 : Rows.uptoBulk q1.1 = Rows.uptoBulk (DataW.lit (H := H) (.string xt.data.toList)) := by rw [hq1]
    have e2 : Rows.uptoBulk z2.1 = Rows.uptoBulk (.agg [q0.1, q1.1]) := by rw [hz2]
    show xt.size ≤ Rows.uptoBulk (.agg [z0.1, z1.1, z2.1])
    omega
set_option maxRecDepth 100000 in
theorem vers_arg {H : Type} {enc : TypeId × Value → H} {W : World} {fuel : Nat} {v : Value} {y : DataW H × List MemPlace} (h : DataW.trod enc Tryd.prog W 0 (fun _ => true) true fuel 22 [v] = some y) :
    ∃ p l cap, v = .slice p l.length cap ∧ Rec verE W p l ∧ (p = none → l = [] ∧ cap = 0) ∧ (∀ x ∈ l, VerIn x ∧ x.text.size ≤ Rows.uptoBulk y.1) ∧ l.length ≤ Rows.uptoBulk y.1 := by
  rcases Deep.open_slice Tryd.underlying22 h with ⟨hcs, _⟩ | ⟨a, len0, cap0, m, nn, D, Pl, hcs, _, hle, hcm, hm, hy, hx⟩
  · simp at hcs
    subst hcs
    exact ⟨none, [], 0, rfl, Or.inl rfl, fun _ => ⟨rfl, rfl⟩, (fun x hx => by cases hx), Nat.zero_le _⟩
  · simp at hcs
    subst hcs
    have hlm : len0 ≤ m := by rw [hm]; split <;> omega
    have hD : ∀ i, i < len0 → Rows.uptoBulk (D i) ≤ Rows.uptoBulk y.1 := fun i hi => by
      rw [hy]
      have h1 : Rows.uptoBulk (D i) ≤ Rows.uptoBulkAll ((List.range len0).map D) := bulk_part (List.mem_map.2 ⟨i, List.mem_range.2 hi, rfl⟩)
      simp only [Rows.uptoBulk]
      omega
    have hLB : len0 ≤ Rows.uptoBulk y.1 := by
      rw [hy]
      have h1 := bulk_len ((List.range len0).map D)
      rw [List.length_map, List.length_range] at h1
      simp only [Rows.uptoBulk]
      omega
    have hv : ∀ i, ∃ x : Ver, i < len0 → (∀ j u, (verC x)[j]? = some u → W.cell? ((a.add (i * 5)).add j) = some u) ∧ VerIn x ∧ x.text.size ≤ Rows.uptoBulk y.1 := fun i => by
      by_cases hi : i < len0
      · obtain ⟨cs', h1, h2⟩ := hx i (by omega)
        obtain ⟨x, hcx, hfx, hbx⟩ := ver_elem h2
        rw [mCellsVer] at h1
        obtain ⟨_, hlen, hcell⟩ := World.cells?_some h1
        refine ⟨x, fun _ => ⟨fun j u hj => ?_, hfx, Nat.le_trans hbx (hD i hi)⟩⟩
        have hj8 : j < 5 := (List.getElem?_eq_some_iff.1 hj).1
        have := hcell j (by omega)
        rw [this, hcx]
        exact hj
      · exact ⟨⟨0, 0, 0, 0, ⟨#[]⟩⟩, fun h => absurd h hi⟩
    have hlen : ((List.range len0).map fun i => Classical.choose (hv i)).length = len0 := by simp
    have hat : ∀ i, i < len0 → ((List.range len0).map fun i => Classical.choose (hv i))[i]? = some (Classical.choose (hv i)) := fun i hi => by
      rw [List.getElem?_map, List.getElem?_range hi]
      rfl
    refine ⟨some a, (List.range len0).map fun i => Classical.choose (hv i), cap0, by rw [hlen], ?_, (fun e => by cases e), fun x hxm => ?_, by rw [hlen]; exact hLB⟩
    · by_cases h0 : len0 = 0
      · exact Or.inl (List.length_eq_zero_iff.1 (by rw [hlen]; exact h0))
      · obtain ⟨u0, hx0⟩ : ∃ u, W.cell? ((a.add (0 * 5)).add 0) = some u := ⟨_, (Classical.choose_spec (hv 0) (by omega)).1 0 _ rfl⟩
        obtain ⟨b, off, sp⟩ := a
        have hsp : sp = none := by
          cases sp with
          | none => rfl
          | some q =>
            exfalso
            simp [Addr.add, World.cell?] at hx0
            revert hx0
            split <;> intro h9 <;> cases h9
        subst hsp
        refine Or.inr ⟨b, off, rfl, ?_, fun i x hxi j u hj => ?_⟩
        · rw [Addr.add_lit, Addr.add_lit] at hx0
          rcases Nat.lt_or_ge b W.heap.size with h' | h'
          · exact h'
          · simp [World.cell?, Array.getElem?_eq_none h'] at hx0
        · have hi : i < len0 := by have := (List.getElem?_eq_some_iff.1 hxi).1; rw [hlen] at this; exact this
          rw [hat i hi] at hxi
          have e := Option.some.inj hxi
          have hc := (Classical.choose_spec (hv i) hi).1 j u (by rw [e]; exact hj)
          rw [Addr.add_lit, Addr.add_lit] at hc
          exact hc
    · obtain ⟨i, hi, rfl⟩ := List.mem_map.1 hxm
      exact (Classical.choose_spec (hv i) (List.mem_range.1 hi)).2
theorem mMsgFields : ∃ f0 f1 f2 f3 f4 f5 f6 f7, Tryd.prog.underlying 24 = some (.struct #[f0, f1, f2, f3, f4, f5, f6, f7]) ∧ (f0.offset = 0 ∧ f1.offset = 1 ∧ f2.offset = 2 ∧ f3.offset = 3 ∧ f4.offset = 4 ∧ f5.offset = 5 ∧ f6.offset = 6 ∧ f7.offset = 7) ∧ f0.type = 9 ∧ f1.type = 9 ∧ f2.type = 9 ∧ f3.type = 9 ∧ f4.type = 3 ∧ f5.type = 3 ∧ f6.type = 4 ∧ f7.type = 22 := ⟨_, _, _, _, _, _, _, _, Tryd.underlying24, ⟨rfl, rfl, rfl, rfl, rfl, rfl, rfl, rfl⟩, rfl, rfl, rfl, rfl, rfl, rfl, rfl, rfl⟩
set_option maxRecDepth 100000 in
/-- A message that came in: its cells, and how much it is. -/
theorem msg_arg {H : Type} {enc : TypeId × Value → H} {W : World} {base : Nat} {v : Value} {d : DataW H} {ps : List MemPlace} (hok : Value.okWide Tryd.prog W .any base 24 v) (h : DataW.Trod enc Tryd.prog W 0 (fun _ => true) true 24 v d ps) :
    ∃ m p c, v = msgA m (.slice p m.L.length c) ∧ Rec verE W p m.L ∧ (p = none → m.L = [] ∧ c = 0) ∧ (m.op ≤ 9223372036854775807 ∧ m.config ≤ 9223372036854775807) ∧ (∀ x ∈ m.L, VerIn x) ∧
      m.from_.size ≤ Rows.uptoBulk d ∧ m.to_.size ≤ Rows.uptoBulk d ∧ m.kind.size ≤ Rows.uptoBulk d ∧ m.key.size ≤ Rows.uptoBulk d ∧ m.L.length ≤ Rows.uptoBulk d ∧ ∀ x ∈ m.L, x.text.size ≤ Rows.uptoBulk d := by
  obtain ⟨f0, f1, f2, f3, f4, f5, f6, f7, hst, ⟨o0, o1, o2, o3, o4, o5, o6, o7⟩, t0, t1, t2, t3, t4, t5, t6, t7⟩ := mMsgFields
  obtain ⟨cs, rfl, hsz⟩ := okWide_struct hst hok
  rw [mCellsMsg] at hsz
  obtain ⟨fuel, hf⟩ := h
  obtain ⟨xs, n, _, hx, _, hlen, hr⟩ := DataW.trod_struct hst hf
  obtain ⟨csl, hcsl⟩ : ∃ csl, csl = cs.toList := ⟨_, rfl⟩
  have hcl : csl.length = 8 := by rw [hcsl]; simpa using hsz
  have hce : cs = csl.toArray := by rw [hcsl]
  subst hce
  match csl, hcl, xs, hlen with
  | [v0, v1, v2, v3, v4, v5, v6, v7], _, [y0, y1, y2, y3, y4, y5, y6, y7], _ =>
    have r0 := hr 0 f0 rfl
    have r1 := hr 1 f1 rfl
    have r2 := hr 2 f2 rfl
    have r3 := hr 3 f3 rfl
    have r4 := hr 4 f4 rfl
    have r5 := hr 5 f5 rfl
    have r6 := hr 6 f6 rfl
    have r7 := hr 7 f7 rfl
    rw [t0, o0, mCellsStr] at r0
    rw [t1, o1, mCellsStr] at r1
    rw [t2, o2, mCellsStr] at r2
    rw [t3, o3, mCellsStr] at r3
    rw [t4, o4, mCellsInt] at r4
    rw [t5, o5, mCellsInt] at r5
    rw [t6, o6, mCellsBool] at r6
    rw [t7, o7, mCellsVers] at r7
    obtain ⟨m1, h1, e1, _⟩ := DataW.trod_string Tryd.underlying9 (show DataW.trod _ _ _ _ _ _ _ _ [v0] = some y0 from r0)
    obtain ⟨m2, h2, e2, _⟩ := DataW.trod_string Tryd.underlying9 (show DataW.trod _ _ _ _ _ _ _ _ [v1] = some y1 from r1)
    obtain ⟨m3, h3, e3, _⟩ := DataW.trod_string Tryd.underlying9 (show DataW.trod _ _ _ _ _ _ _ _ [v2] = some y2 from r2)
    obtain ⟨m4, h4, e4, _⟩ := DataW.trod_string Tryd.underlying9 (show DataW.trod _ _ _ _ _ _ _ _ [v3] = some y3 from r3)
    obtain ⟨m5, h5, _, w5⟩ := DataW.trod_int Tryd.underlying3 (show DataW.trod _ _ _ _ _ _ _ _ [v4] = some y4 from r4)
    obtain ⟨m6, h6, _, w6⟩ := DataW.trod_int Tryd.underlying3 (show DataW.trod _ _ _ _ _ _ _ _ [v5] = some y5 from r5)
    obtain ⟨m7, h7, _⟩ := DataW.trod_bool Tryd.underlying4 (show DataW.trod _ _ _ _ _ _ _ _ [v6] = some y6 from r6)
    obtain ⟨p, L, c, h8, hrec, hn, hvs, hll⟩ := vers_arg (show DataW.trod _ _ _ _ _ _ _ _ [v7] = some y7 from r7)
    simp only [List.cons.injEq, and_true] at h1 h2 h3 h4 h5 h6 h7
    subst h1 h2 h3 h4 h5 h6 h7 h8
    have hd : d = .agg [y0.1, y1.1, y2.1, y3.1, y4.1, y5.1, y6.1, y7.1] := (Prod.mk.inj hx).1
    have b0 : Rows.uptoBulk y0.1 ≤ Rows.uptoBulk d := by rw [hd]; exact bulk_agg (by simp)
    have b1 : Rows.uptoBulk y1.1 ≤ Rows.uptoBulk d := by rw [hd]; exact bulk_agg (by simp)
    have b2 : Rows.uptoBulk y2.1 ≤ Rows.uptoBulk d := by rw [hd]; exact bulk_agg (by simp)
    have b3 : Rows.uptoBulk y3.1 ≤ Rows.uptoBulk d := by rw [hd]; exact bulk_agg (by simp)
    have b7 : Rows.uptoBulk y7.1 ≤ Rows.uptoBulk d := by rw [hd]; exact bulk_agg (by simp)
    rw [e1] at b0
    rw [e2] at b1
    rw [e3] at b2
    rw [e4] at b3
    exact ⟨⟨m1, m2, m3, m4, m5, m6, m7, L⟩, p, c, rfl, hrec, hn, ⟨(bounds_i64 w5).2, (bounds_i64 w6).2⟩, fun x hx => (hvs x hx).1, Nat.le_trans (bulk_str (H := H) m1) b0, Nat.le_trans (bulk_str (H := H) m2) b1, Nat.le_trans (bulk_str (H := H) m3) b2, Nat.le_trans (bulk_str (H := H) m4) b3, Nat.le_trans hll b7, fun x hx => Nat.le_trans (hvs x hx).2 b7⟩
theorem bulkV_max {K : Nat} : ∀ (l : List Ver), (∀ x ∈ l, x.text.size ≤ K) → bulkV l ≤ l.length * (40 + K)
  | [], _ => by simp [bulkV]
  | v :: l, h => by
    have ih := bulkV_max l (fun x hx => h x (by simp [hx]))
    have hv := h v (by simp)
    unfold bulkV at ih ⊢
    rw [List.map_cons, List.sum_cons, List.length_cons, Nat.add_mul, Nat.one_mul]
    omega
end Go.Proofs.YteppmkpckdmnaaaDoor
