/- Messages that came in, whatever they weigh. -/
import Derived.Test.YtcoecfpkihakoaaGreatDoorVsWtP
import Derived.Test.YtcoecfpkihakoaaGreatDoorGz7
import Derived.ProofKit
import Derived.OpenShut
import Derived.ChangeOld
import Derived.Deep.SlicePairs
import Derived.Lib.SmallJoins
namespace Go.Proofs.YtcoecfpkihakoaaGreatDoor
open Go.ChangeShapes Go.WideShapes Go.ChangeAt Go.RowKit
/-- Numbers that an int can be, of a message's versions and of its configuration. -/
def MsgI (x : Msg) : Prop := (∀ v ∈ x.L, VerI64 v) ∧ (-9223372036854775808 ≤ x.config ∧ x.config ≤ 9223372036854775807)
theorem aCellsBool : Tryz.prog.cellsOf 4 = 1 := by kernel_rfl
theorem aCellsMsg : Tryz.prog.cellsOf 44 = 8 := by kernel_rfl
theorem aMsgFields : ∃ f0 f1 f2 f3 f4 f5 f6 f7, Tryz.prog.underlying 44 = some (.struct #[f0, f1, f2, f3, f4, f5, f6, f7]) ∧ (f0.offset = 0 ∧ f1.offset = 1 ∧ f2.offset = 2 ∧ f3.offset = 3 ∧ f4.offset = 4 ∧ f5.offset = 5 ∧ f6.offset = 6 ∧ f7.offset = 7) ∧ f0.type = 9 ∧ f1.type = 9 ∧ f2.type = 9 ∧ f3.type = 9 ∧ f4.type = 3 ∧ f5.type = 3 ∧ f6.type = 4 ∧ f7.type = 40 := ⟨_, _, _, _, _, _, _, _, Tryz.underlying44, ⟨rfl, rfl, rfl, rfl, rfl, rfl, rfl, rfl⟩, rfl, rfl, rfl, rfl, rfl, rfl, rfl, rfl⟩
theorem wBytesMsg : Tryz.prog.bytesOf 44 = 112 := by kernel_rfl
set_option maxRecDepth 100000 in
/-- A message among others. -/
theorem msg_elemW {H : Type} {enc : TypeId × Value → H} {W : World} {fuel : Nat} {cs : List Value} {y : DataW H × List MemPlace} (h : DataW.trod enc Tryz.prog W 0 (fun _ => true) true fuel 44 cs = some y) (hcl : cs.length = 8) : ∃ x : Msg × Lv, cs = msgC x ∧ HasL W x ∧ MsgI x.1 ∧ (WtOk 44 y.1 → MsgR x.1) := by
  obtain ⟨f0, f1, f2, f3, f4, f5, f6, f7, hst, ⟨o0, o1, o2, o3, o4, o5, o6, o7⟩, t0, t1, t2, t3, t4, t5, t6, t7⟩ := aMsgFields
  obtain ⟨xs, n, _, hx, _, hlen, hr⟩ := DataW.trod_struct hst h
  match cs, hcl, xs, hlen with
  | [v0, v1, v2, v3, v4, v5, v6, v7], _, [y0, y1, y2, y3, y4, y5, y6, y7], _ =>
    have r0 := hr 0 f0 rfl
    have r1 := hr 1 f1 rfl
    have r2 := hr 2 f2 rfl
    have r3 := hr 3 f3 rfl
    have r4 := hr 4 f4 rfl
    have r5 := hr 5 f5 rfl
    have r6 := hr 6 f6 rfl
    have r7 := hr 7 f7 rfl
    rw [t0, o0, qCellsStr] at r0
    rw [t1, o1, qCellsStr] at r1
    rw [t2, o2, qCellsStr] at r2
    rw [t3, o3, qCellsStr] at r3
    rw [t4, o4, vCellsInt] at r4
    rw [t5, o5, vCellsInt] at r5
    rw [t6, o6, aCellsBool] at r6
    rw [t7, o7, qCellsVers] at r7
    obtain ⟨m1, h1, e1, _⟩ := DataW.trod_string Tryz.underlying9 (show DataW.trod _ _ _ _ _ _ _ _ [v0] = some y0 from r0)
    obtain ⟨m2, h2, e2, _⟩ := DataW.trod_string Tryz.underlying9 (show DataW.trod _ _ _ _ _ _ _ _ [v1] = some y1 from r1)
    obtain ⟨m3, h3, e3, _⟩ := DataW.trod_string Tryz.underlying9 (show DataW.trod _ _ _ _ _ _ _ _ [v2] = some y2 from r2)
    obtain ⟨m4, h4, e4, _⟩ := DataW.trod_string Tryz.underlying9 (show DataW.trod _ _ _ _ _ _ _ _ [v3] = some y3 from r3)
    obtain ⟨m5, h5, _, _⟩ := DataW.trod_int Tryz.underlying3 (show DataW.trod _ _ _ _ _ _ _ _ [v4] = some y4 from r4)
    obtain ⟨m6, h6, _, w6⟩ := DataW.trod_int Tryz.underlying3 (show DataW.trod _ _ _ _ _ _ _ _ [v5] = some y5 from r5)
    obtain ⟨m7, h7, _⟩ := DataW.trod_bool Tryz.underlying4 (show DataW.trod _ _ _ _ _ _ _ _ [v6] = some y6 from r6)
    obtain ⟨p, L, c, h8, hrec, hrm, hn, hvs, hll⟩ := vers_argW (show DataW.trod _ _ _ _ _ _ _ _ [v7] = some y7 from r7)
    simp only [List.cons.injEq, and_true] at h1 h2 h3 h4 h5 h6 h7
    subst h1 h2 h3 h4 h5 h6 h7 h8
    refine ⟨(⟨m1, m2, m3, m4, m5, m6, m7, L⟩, (p, L.length, c)), rfl, ⟨rfl, hrec, hrm, hn⟩, ⟨hvs, by simp [Lit.wf, IntKind.min, IntKind.max, IntKind.bits, IntKind.signed] at w6; exact w6⟩, fun hw => ?_⟩
    have hd : y.1 = .agg [y0.1, y1.1, y2.1, y3.1, y4.1, y5.1, y6.1, y7.1] := by rw [hx]; rfl
    rw [hd] at hw
    have g0 := wt_agg (i := 0) hst hw rfl rfl
    have g1 := wt_agg (i := 1) hst hw rfl rfl
    have g2 := wt_agg (i := 2) hst hw rfl rfl
    have g3 := wt_agg (i := 3) hst hw rfl rfl
    have g7 : WtOk f7.type y7.1 := wt_agg (i := 7) hst hw rfl rfl
    rw [e1] at g0
    rw [e2] at g1
    rw [e3] at g2
    rw [e4] at g3
    rw [t7] at g7
    exact ⟨⟨wt_str' g0, wt_str' g1, wt_str' g2, wt_str' g3⟩, (hll g7).1, (hll g7).2⟩
set_option maxRecDepth 100000 in
/-- Messages that came in. -/
theorem msgs_argW {H : Type} {enc : TypeId × Value → H} {W : World} {fuel : Nat} {v : Value} {y : DataW H × List MemPlace} (h : DataW.trod enc Tryz.prog W 0 (fun _ => true) true fuel 22 [v] = some y) :
    ∃ p l cap, v = .slice p l.length cap ∧ MsgsAt W p l ∧ (∀ x ∈ l, MsgI x) ∧ (WtOk 22 y.1 → l.length ≤ 140737488351232 ∧ ∀ x ∈ l, MsgR x) := by
  rcases Deep.open_slice Tryz.underlying22 h with ⟨hcs, _⟩ | ⟨a, len0, cap0, m0, nn, D, Pl, hcs, _, hle, hcm, hm, hy, hx⟩
  · simp at hcs
    subst hcs
    exact ⟨none, [], 0, rfl, MsgsAt.nil _ _, (fun x hx => by cases hx), fun _ => ⟨Nat.zero_le _, fun x hx => by cases hx⟩⟩
  · simp at hcs
    subst hcs
    have hlm : len0 ≤ m0 := by rw [hm]; split <;> omega
    have hsub : WtOk 22 y.1 → len0 ≤ 140737488351232 ∧ ∀ i, i < len0 → WtOk 44 (D i) := fun hw => by
      rw [hy] at hw
      obtain ⟨h1, h2⟩ := wt_slice Tryz.underlying22 hw
      rw [wBytesMsg, List.length_map, List.length_range] at h1
      exact ⟨by omega, fun i hi => h2 _ (List.mem_map.2 ⟨i, List.mem_range.2 hi, rfl⟩)⟩
    have hv : ∀ i, ∃ x : Msg × Lv, i < len0 → (∀ j u, (msgC x)[j]? = some u → W.cell? ((a.add (i * 8)).add j) = some u) ∧ HasL W x ∧ MsgI x.1 ∧ (WtOk 44 (D i) → MsgR x.1) := fun i => by
      by_cases hi : i < len0
      · obtain ⟨cs', h1, h2⟩ := hx i (by omega)
        rw [aCellsMsg] at h1
        obtain ⟨_, hlen, hcell⟩ := World.cells?_some h1
        obtain ⟨x, hcx, hfx, hvx, hbx⟩ := msg_elemW h2 hlen
        refine ⟨x, fun _ => ⟨fun j u hj => ?_, hfx, hvx, hbx⟩⟩
        have hj8 : j < 8 := (List.getElem?_eq_some_iff.1 hj).1
        have := hcell j (by omega)
        rw [this, hcx]
        exact hj
      · exact ⟨(⟨⟨#[]⟩, ⟨#[]⟩, ⟨#[]⟩, ⟨#[]⟩, 0, 0, false, []⟩, (none, 0, 0)), fun h => absurd h hi⟩
    obtain ⟨R, hR⟩ : ∃ R : Nat → Msg × Lv, ∀ i, i < len0 → (∀ j u, (msgC (R i))[j]? = some u → W.cell? ((a.add (i * 8)).add j) = some u) ∧ HasL W (R i) ∧ MsgI (R i).1 ∧ (WtOk 44 (D i) → MsgR (R i).1) := ⟨fun i => Classical.choose (hv i), fun i => Classical.choose_spec (hv i)⟩
    clear hv
    have hlen : ((List.range len0).map R).length = len0 := by simp
    have hat : ∀ i, i < len0 → ((List.range len0).map R)[i]? = some (R i) := fun i hi => by
      rw [List.getElem?_map, List.getElem?_range hi]
      rfl
    refine ⟨some a, ((List.range len0).map R).map Prod.fst, cap0, by rw [List.length_map, hlen], ⟨(List.range len0).map R, rfl, ?_, fun x hxm => ?_⟩, fun x hxm => ?_, fun hw => ⟨by rw [List.length_map, hlen]; exact (hsub hw).1, fun x hxm => ?_⟩⟩
    · by_cases h0 : len0 = 0
      · exact Or.inl (List.length_eq_zero_iff.1 (by rw [hlen]; exact h0))
      · obtain ⟨u0, hx0⟩ : ∃ u, W.cell? ((a.add (0 * 8)).add 0) = some u := ⟨_, (hR 0 (by omega)).1 0 _ rfl⟩
        obtain ⟨b, off, sp⟩ := a
        have hsp : sp = none := by
          cases sp with
          | none => rfl
          | some q =>
            exfalso
            simp [Addr.add, World.cell?] at hx0
            revert hx0
            split <;> intro h9 <;> cases h9
        subst hsp
        refine Or.inr ⟨b, off, rfl, ?_, fun i x hxi j u hj => ?_⟩
        · rw [Addr.add_lit, Addr.add_lit] at hx0
          rcases Nat.lt_or_ge b W.heap.size with h' | h'
          · exact h'
          · simp [World.cell?, Array.getElem?_eq_none h'] at hx0
        · have hi : i < len0 := by have := (List.getElem?_eq_some_iff.1 hxi).1; rw [hlen] at this; exact this
          rw [hat i hi] at hxi
          have e := Option.some.inj hxi
          have hc := (hR i hi).1 j u (by rw [e]; exact hj)
          rw [Addr.add_lit, Addr.add_lit] at hc
          exact hc
    · obtain ⟨i, hi, rfl⟩ := List.mem_map.1 hxm
      exact (hR i (List.mem_range.1 hi)).2.1
    · obtain ⟨z, hz, rfl⟩ := List.mem_map.1 hxm
      obtain ⟨i, hi, rfl⟩ := List.mem_map.1 hz
      exact (hR i (List.mem_range.1 hi)).2.2.1
    · obtain ⟨z, hz, rfl⟩ := List.mem_map.1 hxm
      obtain ⟨i, hi, rfl⟩ := List.mem_map.1 hz
      exact (hR i (List.mem_range.1 hi)).2.2.2 ((hsub hw).2 i (List.mem_range.1 hi))
end Go.Proofs.YtcoecfpkihakoaaGreatDoor
