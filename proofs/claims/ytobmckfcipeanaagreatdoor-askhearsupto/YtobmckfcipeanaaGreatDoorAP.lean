/- The law AskHears returns true for every bid and all messages that hold together, with all that they reach, at most 1048576 values and letters, and changes nothing: an ask is made or refused as the document says, and says, at each message, what the document's own says; its state and its answer are the document's, too. Condition: package-level variables hold what the program's own text lays (the card ties it). -/
import Derived.Test.YtobmckfcipeanaaGreatDoorAL
import Derived.Test.YtobmckfcipeanaaGreatDoorAkNW
import Derived.Test.YtobmckfcipeanaaGreatDoorAkOW
import Derived.Test.YtobmckfcipeanaaGreatDoorYQ
import Derived.ProofKit
import Derived.OpenShut
import Derived.ChangeOld
import Derived.Deep.SlicePairs
import Derived.Lib.SmallJoins
import Derived.Test.YtobmckfcipeanaaGreatDoorTie
import Derived.Test.YtobmckfcipeanaaGreatDoorCards
import Derived.Test.YtobmckfcipeanaaGreatDoorYR
import Derived.Test.YtobmckfcipeanaaGreatDoorPU
import Derived.LaidMore
import Derived.Stop.Joined
import Derived.SevenTiedAt
import Derived.ChangeMaps5
import Derived.Deep.DeepHandedRow
import Derived.Deep.DeepWitnessRowRef
namespace Go.Proofs.YtobmckfcipeanaaGreatDoor
open Go.RowKit
variable {ad : Nat -> Addr} {X : World -> Prop} {Ak : World -> Nat -> Nat -> (Nat -> Prop) -> MAsk -> Prop}
theorem askHears_any (hO : AskOk ad X Ak) (hF : ∀ {w B h S a}, Ak w B h S a -> AFine a) (b : Bid) (p : Option Addr) (cap : Nat) (l : List Msg) (lp : Option Addr) (lcap : Nat) (w : World) (hi : LawIn ad X b p cap l lp w) : Calls Tryz.prog 3 #[.agg #[.bool b.put, .int .i64 b.who, .int .i64 b.op, .int .i64 b.config, .int .i64 b.c.n, .int .i64 b.c.k, .slice p b.c.L.length cap, .string b.key, .string b.text], .slice lp l.length lcap] w fun e w' => e = .returned (.bool true) /\ Below w.heap.size w w' := by
 cases h1 : longC b.c with
 | true => exact askHears_long hO b p cap l lp lcap w hi h1
 | false =>
  by_cases h2 : 100 < b.key.size
  ·exact askHears_key hO b p cap l lp lcap w hi h1 h2
  ·by_cases h3 : b.text.size <= 100 ∨ 1000 < b.text.size /\ b.text.size <= 2000
   ·cases h4 : fitsM l with
    | false => exact askHears_much hO b p cap l lp lcap w hi h1 h2 h3 h4
    | true =>
     by_cases h6 : 0 < (bidF b).1
     ·rcases Bool.eq_false_or_eq_true b.put with h5 | h5
      ·exact askHears_put_bad hO b p cap l lp lcap w hi h1 h2 h3 h4 h5 h6
      ·exact askHears_get_bad hO b p cap l lp lcap w hi h1 h2 h3 h4 h5 h6
     ·rcases Bool.eq_false_or_eq_true b.put with h5 | h5
      ·exact askHears_put_fine hO b p cap l lp lcap w hi hF h1 h2 h3 h4 h5 h6
      ·exact askHears_get_fine hO b p cap l lp lcap w hi hF h1 h2 h3 h4 h5 h6
   ·exact askHears_text hO b p cap l lp lcap w hi h1 h2 (by omega) (by omega)
end Go.Proofs.YtobmckfcipeanaaGreatDoor
namespace Go.Proofs.YtobmckfcipeanaaGreatDoor
open Go.ChangeShapes Go.WideShapes Go.ChangeAt Go.RowKit
theorem aCellsBool : Tryz.prog.cellsOf 4 = 1 := by kernel_rfl
theorem aCellsMsg : Tryz.prog.cellsOf 59 = 8 := by kernel_rfl
theorem aCellsBid : Tryz.prog.cellsOf 26 = 9 := by kernel_rfl
theorem aMsgFields : ∃ f0 f1 f2 f3 f4 f5 f6 f7, Tryz.prog.underlying 59 = some (.struct #[f0, f1, f2, f3, f4, f5, f6, f7]) /\ (f0.offset = 0 /\ f1.offset = 1 /\ f2.offset = 2 /\ f3.offset = 3 /\ f4.offset = 4 /\ f5.offset = 5 /\ f6.offset = 6 /\ f7.offset = 7) /\ f0.type = 9 /\ f1.type = 9 /\ f2.type = 9 /\ f3.type = 9 /\ f4.type = 3 /\ f5.type = 3 /\ f6.type = 4 /\ f7.type = 55 := ⟨_, _, _, _, _, _, _, _, Tryz.underlying59, ⟨rfl, rfl, rfl, rfl, rfl, rfl, rfl, rfl⟩, rfl, rfl, rfl, rfl, rfl, rfl, rfl, rfl⟩
theorem aBidFields : ∃ f0 f1 f2 f3 f4 f5 f6, Tryz.prog.underlying 26 = some (.struct #[f0, f1, f2, f3, f4, f5, f6]) /\ (f0.offset = 0 /\ f1.offset = 1 /\ f2.offset = 2 /\ f3.offset = 3 /\ f4.offset = 4 /\ f5.offset = 7 /\ f6.offset = 8) /\ f0.type = 4 /\ f1.type = 3 /\ f2.type = 3 /\ f3.type = 3 /\ f4.type = 24 /\ f5.type = 9 /\ f6.type = 9 := ⟨_, _, _, _, _, _, _, Tryz.underlying26, ⟨rfl, rfl, rfl, rfl, rfl, rfl, rfl⟩, rfl, rfl, rfl, rfl, rfl, rfl, rfl⟩
theorem bulkV_tol (l : List Ver) : bulkV l <= 60 * tolN l := by
 induction l with
 | nil => exact Nat.le_refl _
 | cons v l ih =>
  have e : tolN (v :: l) = 1 + v.text.size / 20 + tolN l := by simp [tolN]
  have e' : bulkV (v :: l) = 40 + v.text.size + bulkV l := by simp [bulkV]
  omega
set_option maxRecDepth 100000 in
theorem msg_elem8 {H : Type} {m : DataW H -> Nat} (hb : IsBulk m) {enc : TypeId × Value -> H} {W : World} {fuel : Nat} {cs : List Value} {y : DataW H × List MemPlace} (h : DataW.trod enc Tryz.prog W 0 (fun _ => true) true fuel 59 cs = some y) (hcl : cs.length = 8) : ∃ x : Msg × Lv, cs = msgC x /\ HasL W x /\ (∀ v ∈ x.1.L, VerI64 v) /\ 20 + bulkN x.1 <= 60 * m y.1 := by
 obtain ⟨f0, f1, f2, f3, f4, f5, f6, f7, hst, ⟨o0, o1, o2, o3, o4, o5, o6, o7⟩, t0, t1, t2, t3, t4, t5, t6, t7⟩ := aMsgFields
 obtain ⟨xs, n, _, hx, _, hlen, hr⟩ := DataW.trod_struct hst h
 match cs, hcl, xs, hlen with
 | [v0, v1, v2, v3, v4, v5, v6, v7], _, [y0, y1, y2, y3, y4, y5, y6, y7], _ =>
  have r0 := hr 0 f0 rfl
  have r1 := hr 1 f1 rfl
  have r2 := hr 2 f2 rfl
  have r3 := hr 3 f3 rfl
  have r4 := hr 4 f4 rfl
  have r5 := hr 5 f5 rfl
  have r6 := hr 6 f6 rfl
  have r7 := hr 7 f7 rfl
  rw [t0, o0, qCellsStr] at r0
  rw [t1, o1, qCellsStr] at r1
  rw [t2, o2, qCellsStr] at r2
  rw [t3, o3, qCellsStr] at r3
  rw [t4, o4, qCellsInt] at r4
  rw [t5, o5, qCellsInt] at r5
  rw [t6, o6, aCellsBool] at r6
  rw [t7, o7, qCellsVers] at r7
  obtain ⟨m1, h1, e1, _⟩ := DataW.trod_string Tryz.underlying9 (show DataW.trod _ _ _ _ _ _ _ _ [v0] = some y0 from r0)
  obtain ⟨m2, h2, e2, _⟩ := DataW.trod_string Tryz.underlying9 (show DataW.trod _ _ _ _ _ _ _ _ [v1] = some y1 from r1)
  obtain ⟨m3, h3, e3, _⟩ := DataW.trod_string Tryz.underlying9 (show DataW.trod _ _ _ _ _ _ _ _ [v2] = some y2 from r2)
  obtain ⟨m4, h4, e4, _⟩ := DataW.trod_string Tryz.underlying9 (show DataW.trod _ _ _ _ _ _ _ _ [v3] = some y3 from r3)
  obtain ⟨m5, h5, _, _⟩ := DataW.trod_int Tryz.underlying3 (show DataW.trod _ _ _ _ _ _ _ _ [v4] = some y4 from r4)
  obtain ⟨m6, h6, _, _⟩ := DataW.trod_int Tryz.underlying3 (show DataW.trod _ _ _ _ _ _ _ _ [v5] = some y5 from r5)
  obtain ⟨m7, h7, _⟩ := DataW.trod_bool Tryz.underlying4 (show DataW.trod _ _ _ _ _ _ _ _ [v6] = some y6 from r6)
  obtain ⟨p, L, c, h8, hrec, hrm, hn, hvs, hll⟩ := vers_arg8 hb (show DataW.trod _ _ _ _ _ _ _ _ [v7] = some y7 from r7)
  simp only [List.cons.injEq, and_true] at h1 h2 h3 h4 h5 h6 h7
  subst h1 h2 h3 h4 h5 h6 h7 h8
  refine ⟨(⟨m1, m2, m3, m4, m5, m6, m7, L⟩, (p, L.length, c)), rfl, ⟨rfl, hrec, hrm, hn⟩, hvs, ?_⟩
  have hd : y.1 = .agg [y0.1, y1.1, y2.1, y3.1, y4.1, y5.1, y6.1, y7.1] := by rw [hx]; rfl
  have hs := hb.agg [y0.1, y1.1, y2.1, y3.1, y4.1, y5.1, y6.1, y7.1]
  rw [<- hd] at hs
  simp only [List.map_cons, List.map_nil, List.sum_cons, List.sum_nil] at hs
  have b1 : m1.size <= m y0.1 := by rw [e1]; exact hb.str' m1
  have b2 : m2.size <= m y1.1 := by rw [e2]; exact hb.str' m2
  have b3 : m3.size <= m y2.1 := by rw [e3]; exact hb.str' m3
  have b4 : m4.size <= m y3.1 := by rw [e4]; exact hb.str' m4
  have b5 := hb.one y4.1
  have b6 := bulkV_tol L
  show 20 + (m1.size + m2.size + m3.size + m4.size + bulkV L) <= _
  omega
set_option maxRecDepth 100000 in
theorem msgs_arg8 {H : Type} {m : DataW H -> Nat} (hb : IsBulk m) {enc : TypeId × Value -> H} {W : World} {fuel : Nat} {v : Value} {y : DataW H × List MemPlace} (h : DataW.trod enc Tryz.prog W 0 (fun _ => true) true fuel 27 [v] = some y) :
 ∃ p l cap, v = .slice p l.length cap /\ MsgsAt W p l /\ (∀ x ∈ l, ∀ v ∈ x.L, VerI64 v) /\ weighM l <= 60 * m y.1 := by
 rcases Deep.open_slice Tryz.underlying27 h with ⟨hcs, _⟩ | ⟨a, len0, cap0, m0, nn, D, Pl, hcs, _, hle, hcm, hm, hy, hx⟩
 ·simp at hcs
  subst hcs
  exact ⟨none, [], 0, rfl, MsgsAt.nil _ _, (fun x hx => by cases hx), Nat.zero_le _⟩
 ·simp at hcs
  subst hcs
  have hlm : len0 <= m0 := by rw [hm]; split <;> omega
  have hsum : ((List.range len0).map fun i => m (D i)).sum <= m y.1 := by
   rw [hy]
   have h1 := hb.slice ((List.range len0).map D)
   simp only [List.map_map] at h1
   exact h1 _
  have hv : ∀ i, ∃ x : Msg × Lv, i < len0 -> (∀ j u, (msgC x)[j]? = some u -> W.cell? ((a.add (i * 8)).add j) = some u) /\ HasL W x /\ (∀ v ∈ x.1.L, VerI64 v) /\ 20 + bulkN x.1 <= 60 * m (D i) := fun i => by
   by_cases hi : i < len0
   ·obtain ⟨cs', h1, h2⟩ := hx i (by omega)
    rw [aCellsMsg] at h1
    obtain ⟨_, hlen, hcell⟩ := World.cells?_some h1
    obtain ⟨x, hcx, hfx, hvx, hbx⟩ := msg_elem8 hb h2 hlen
    refine ⟨x, fun _ => ⟨fun j u hj => ?_, hfx, hvx, hbx⟩⟩
    have hj8 : j < 8 := (List.getElem?_eq_some_iff.1 hj).1
    have := hcell j (by omega)
    rw [this, hcx]
    exact hj
   ·exact ⟨(⟨⟨#[]⟩, ⟨#[]⟩, ⟨#[]⟩, ⟨#[]⟩, 0, 0, false, []⟩, (none, 0, 0)), fun h => absurd h hi⟩
  obtain ⟨R, hR⟩ : ∃ R : Nat -> Msg × Lv, ∀ i, i < len0 -> (∀ j u, (msgC (R i))[j]? = some u -> W.cell? ((a.add (i * 8)).add j) = some u) /\ HasL W (R i) /\ (∀ v ∈ (R i).1.L, VerI64 v) /\ 20 + bulkN (R i).1 <= 60 * m (D i) := ⟨fun i => Classical.choose (hv i), fun i => Classical.choose_spec (hv i)⟩
  clear hv
  have hlen : ((List.range len0).map R).length = len0 := by simp
  have hat : ∀ i, i < len0 -> ((List.range len0).map R)[i]? = some (R i) := fun i hi => by
   rw [List.getElem?_map, List.getElem?_range hi]
   rfl
  refine ⟨some a, ((List.range len0).map R).map Prod.fst, cap0, by rw [List.length_map, hlen], ⟨(List.range len0).map R, rfl, ?_, fun x hxm => ?_⟩, fun x hxm => ?_, ?_⟩
  ·by_cases h0 : len0 = 0
   ·exact Or.inl (List.length_eq_zero_iff.1 (by rw [hlen]; exact h0))
   ·obtain ⟨u0, hx0⟩ : ∃ u, W.cell? ((a.add (0 * 8)).add 0) = some u := ⟨_, (hR 0 (by omega)).1 0 _ rfl⟩
    obtain ⟨b, off, sp⟩ := a
    have hsp : sp = none := by
     cases sp with
     | none => rfl
     | some q =>
      exfalso
      simp [Addr.add, World.cell?] at hx0
      revert hx0
      split <;> intro h9 <;> cases h9
    subst hsp
    refine Or.inr ⟨b, off, rfl, ?_, fun i x hxi j u hj => ?_⟩
    ·rw [Addr.add_lit, Addr.add_lit] at hx0
     rcases Nat.lt_or_ge b W.heap.size with h' | h'
     ·exact h'
     ·simp [World.cell?, Array.getElem?_eq_none h'] at hx0
    ·have hi : i < len0 := by have := (List.getElem?_eq_some_iff.1 hxi).1; rw [hlen] at this; exact this
     rw [hat i hi] at hxi
     have e := Option.some.inj hxi
     have hc := (hR i hi).1 j u (by rw [e]; exact hj)
     rw [Addr.add_lit, Addr.add_lit] at hc
     exact hc
  ·obtain ⟨i, hi, rfl⟩ := List.mem_map.1 hxm
   exact (hR i (List.mem_range.1 hi)).2.1
  ·obtain ⟨z, hz, rfl⟩ := List.mem_map.1 hxm
   obtain ⟨i, hi, rfl⟩ := List.mem_map.1 hz
   exact (hR i (List.mem_range.1 hi)).2.2.1
  ·have h2 : weighM (((List.range len0).map R).map Prod.fst) <= ((List.range len0).map fun i => 60 * m (D i)).sum := by
    unfold weighM
    rw [List.map_map, List.map_map]
    exact sum_range_le len0 fun i hi => (hR i hi).2.2.2
   have h3 : ∀ (L : List Nat), (L.map fun i => 60 * m (D i)).sum = 60 * (L.map fun i => m (D i)).sum := by
    intro L
    induction L with
    | nil => rfl
    | cons x r ih => simp only [List.map_cons, List.sum_cons, ih]; omega
   rw [h3] at h2
   omega
set_option maxRecDepth 100000 in
theorem bid_arg8 {H : Type} {enc : TypeId × Value -> H} {W : World} {base : Nat} {v : Value} {d : DataW H} {ps : List MemPlace} (hok : Value.okWide Tryz.prog W .any base 26 v) (h : DataW.Trod enc Tryz.prog W 0 (fun _ => true) true 26 v d ps) :
 ∃ (b : Bid) (p : Option Addr) (cap : Nat), v = .agg #[.bool b.put, .int .i64 b.who, .int .i64 b.op, .int .i64 b.config, .int .i64 b.c.n, .int .i64 b.c.k, .slice p b.c.L.length cap, .string b.key, .string b.text] /\ TxsIn W b.c.L p cap /\ CfgIn b.c /\ I64 b.who /\ I64 b.op /\ I64 b.config := by
 obtain ⟨f0, f1, f2, f3, f4, f5, f6, hst, ⟨o0, o1, o2, o3, o4, o5, o6⟩, t0, t1, t2, t3, t4, t5, t6⟩ := aBidFields
 obtain ⟨g0, g1, g2, hcst, oo0, oo1, oo2, tt0, tt1, tt2⟩ := qCfgFields
 obtain ⟨cs, rfl, hsz⟩ := okWide_struct hst hok
 rw [aCellsBid] at hsz
 obtain ⟨fuel, hf⟩ := h
 obtain ⟨xs, n, _, hx, _, hlen, hr⟩ := DataW.trod_struct hst hf
 obtain ⟨csl, hcsl⟩ : ∃ csl, csl = cs.toList := ⟨_, rfl⟩
 have hcl : csl.length = 9 := by rw [hcsl]; simpa using hsz
 have hce : cs = csl.toArray := by rw [hcsl]
 subst hce
 match csl, hcl, xs, hlen with
 | [v0, v1, v2, v3, v4, v5, v6, v7, v8], _, [y0, y1, y2, y3, y4, y5, y6], _ =>
  have r0 := hr 0 f0 rfl
  have r1 := hr 1 f1 rfl
  have r2 := hr 2 f2 rfl
  have r3 := hr 3 f3 rfl
  have r4 := hr 4 f4 rfl
  have r5 := hr 5 f5 rfl
  have r6 := hr 6 f6 rfl
  rw [t0, o0, aCellsBool] at r0
  rw [t1, o1, qCellsInt] at r1
  rw [t2, o2, qCellsInt] at r2
  rw [t3, o3, qCellsInt] at r3
  rw [t4, o4, qCellsCfg] at r4
  rw [t5, o5, qCellsStr] at r5
  rw [t6, o6, qCellsStr] at r6
  obtain ⟨z0, z1, z2, n2, _, _, k0, k1, k2⟩ := Deep.trod_struct3 hcst (show DataW.trod _ _ _ _ _ _ _ _ [v4, v5, v6] = some y4 from r4)
  rw [tt0, oo0, qCellsInt] at k0
  rw [tt1, oo1, qCellsInt] at k1
  rw [tt2, oo2, qCellsStrs] at k2
  obtain ⟨cn, hn, _, wn⟩ := DataW.trod_int Tryz.underlying3 k0
  obtain ⟨ck, hk, _, wk⟩ := DataW.trod_int Tryz.underlying3 k1
  obtain ⟨p, l, cap, hl, htx⟩ := strs_arg8 (show DataW.trod _ _ _ _ _ _ _ _ [v6] = some z2 from k2)
  obtain ⟨m0, h0, _⟩ := DataW.trod_bool Tryz.underlying4 (show DataW.trod _ _ _ _ _ _ _ _ [v0] = some y0 from r0)
  obtain ⟨m1, h1, _, w1⟩ := DataW.trod_int Tryz.underlying3 (show DataW.trod _ _ _ _ _ _ _ _ [v1] = some y1 from r1)
  obtain ⟨m2, h2, _, w2⟩ := DataW.trod_int Tryz.underlying3 (show DataW.trod _ _ _ _ _ _ _ _ [v2] = some y2 from r2)
  obtain ⟨m3, h3, _, w3⟩ := DataW.trod_int Tryz.underlying3 (show DataW.trod _ _ _ _ _ _ _ _ [v3] = some y3 from r3)
  obtain ⟨m5, h5, _, _⟩ := DataW.trod_string Tryz.underlying9 (show DataW.trod _ _ _ _ _ _ _ _ [v7] = some y5 from r5)
  obtain ⟨m6, h6, _, _⟩ := DataW.trod_string Tryz.underlying9 (show DataW.trod _ _ _ _ _ _ _ _ [v8] = some y6 from r6)
  simp at hn hk
  simp only [List.cons.injEq, and_true] at h0 h1 h2 h3 h5 h6
  subst hn hk hl h0 h1 h2 h3 h5 h6
  exact ⟨⟨m0, m1, m2, m3, ⟨cn, ck, l⟩, m5, m6⟩, p, cap, rfl, htx, ⟨bounds_i64 wn, bounds_i64 wk⟩, bounds_i64 w1, bounds_i64 w2, bounds_i64 w3⟩
end Go.Proofs.YtobmckfcipeanaaGreatDoor
namespace Go.Proofs.YtobmckfcipeanaaGreatDoor
open Go.ChangeShapes Go.WideShapes Go.ChangeAt Go.WideMaps Go.WideElems Go.RowKit
theorem askHears_own : ownKnob Tryz.prog.godebug = none := by kernel_rfl
theorem bulkAll_sum {H : Type} (l : List (DataW H)) : Rows.uptoBulkAll l = (l.map Rows.uptoBulk).sum := by
 induction l with
 | nil => rfl
 | cons x r ih => simp only [Rows.uptoBulkAll, List.map_cons, List.sum_cons, ih]
theorem isBulk {H : Type} : IsBulk (Rows.uptoBulk (H := H)) where
 one := fun d => by
  cases d with
  | lit l => cases l <;> simp [Rows.uptoBulk]
  | nil => simp [Rows.uptoBulk]
  | ptr d => simp [Rows.uptoBulk]
  | slice elems spare => simp [Rows.uptoBulk]
  | agg parts => simp [Rows.uptoBulk]
  | iface t d => simp [Rows.uptoBulk]
  | map entries => simp [Rows.uptoBulk]
  | held h => simp [Rows.uptoBulk]
 str := fun l => by simp only [Rows.uptoBulk]; omega
 agg := fun l => by simp only [Rows.uptoBulk, bulkAll_sum]; omega
 slice := fun es sp => by simp only [Rows.uptoBulk, bulkAll_sum]; omega
def noBid : Value := .agg #[.bool false, .int .i64 0, .int .i64 0, .int .i64 0, .int .i64 0, .int .i64 0, .slice none 0 0, .string ⟨#[]⟩, .string ⟨#[]⟩]
theorem askHears_door (os : Os) (args : Array Value) : laidMetH Tryz.prog Rows.askHearsUptoRow.laid ((World.doorLaid Tryz.prog 259 os).forCall (fun _ _ => 0) ⟨#[], args, []⟩).memory :=
 laidMetH_of_parts3 (fuel := 8) (laidMet_of_run' 8 (by kernel_rfl) (by kernel_rfl)) (by kernel_rfl) (by kernel_rfl)
theorem askHears_reads (os : Os) {H : Type} (enc : TypeId × Value -> H) : DataW.whole enc Tryz.prog ((World.doorLaid Tryz.prog 259 os).forCall (fun _ _ => 0) ⟨#[], #[noBid, .slice none 0 0], []⟩).memory Tryz.f3.params.toList Rows.askHearsSpec.vars false #[noBid, .slice none 0 0].toList 8 =
 some ([.agg [.lit (.bool false), .lit (.int .i64 0), .lit (.int .i64 0), .lit (.int .i64 0), .agg [.lit (.int .i64 0), .lit (.int .i64 0), .nil], .lit (.string []), .lit (.string [])], .nil], [], []) := by kernel_rfl
theorem aLaidOut : laidOutB Tryz.prog = true := by kernel_rfl
set_option maxRecDepth 100000 in
theorem askHears_contract (H : Type) (enc : TypeId × Value -> H) (W : World) (base : Nat) (args : Array Value) (ds gs : List (DataW H)) (before : List MemPlace)
 (hval0 : ∀ (j : Nat) t v, Tryz.f3.params[j]? = some t -> args[j]? = some v -> Value.okWide Tryz.prog W .any base t v)
 (hW : DataW.Whole enc Tryz.prog Tryz.f3.params.toList Rows.askHearsSpec.vars false W args.toList ds gs before) (hL : laidMetH Tryz.prog Rows.askHearsUptoRow.laid W) (hk : Rows.uptoSmall H (ds ++ gs) = true) :
 Calls Tryz.prog 3 args W fun e W' => ∃ v, e = .returned v /\ Rows.askHearsSpec.post enc Tryz.prog Tryz.f3 false true false false W args v W' := by
 have hval : ∀ (j : Nat) t v, Tryz.f3.params[j]? = some t -> args[j]? = some v -> Value.okWide Tryz.prog W .any base t v := hval0
 have hW' := hW
 obtain ⟨p, q, hA0, hV, rfl, hfz, hnd⟩ := hW
 have hA : DataW.TrodAll enc Tryz.prog W 0 (fun _ => true) true Tryz.f3.params.toList args.toList ds p := hA0
 rw [Tryz.params3] at hA hval
 obtain ⟨v0, vs0, d0, ds0, p0, q0, hargs, rfl, rfl, h0, r0⟩ := trodAll_cons hA
 obtain ⟨v1, vs1, d1, ds1, p1, q1, rfl, rfl, rfl, h1, r1⟩ := trodAll_cons r0
 obtain ⟨rfl, rfl, rfl⟩ := trodAll_nil r1
 obtain rfl : args = #[v0, v1] := by cases args; simp_all
 obtain ⟨rfl, rfl⟩ := trodVars_none hV
 have k0 := h0
 have lt0 : ∀ x ∈ p0, x.block < W.heap.size := by obtain ⟨m, hm⟩ := k0; exact DataW.trod_lt m _ _ _ hm
 have k1 := h1
 have lt1 : ∀ x ∈ p1, x.block < W.heap.size := by obtain ⟨m, hm⟩ := k1; exact DataW.trod_lt m _ _ _ hm
 obtain ⟨bd, pc, cc, rfl, hsc, hic, hwho, hop, hcfg⟩ := bid_arg8 (hval 0 26 v0 rfl rfl) h0
 obtain ⟨a1, len1, cap1, rfl⟩ := okWide_slice Tryz.underlying27 (hval 1 27 v1 rfl rfl)
 obtain ⟨fuel, hf⟩ := h1
 obtain ⟨pl, l, cl, hvv, hms, hvi, hwt⟩ := msgs_arg8 isBulk hf
 rw [hvv]
 have hB : Rows.uptoBulk d1 <= 1048576 := by
  have e1 : Rows.uptoBulkAll ([d0, d1] ++ ([] : List (DataW H))) <= 1048576 := of_decide_eq_true hk
  simp only [List.append_nil, Rows.uptoBulkAll] at e1
  omega
 dsimp only at hwt
 clear hA0 hval0
 obtain ⟨ad, hS⟩ := sent_of_laid hL
 rw [hvv] at hW' k1
 have hcell : ∀ (V : World), (∀ k, k < W.heap.size -> V.heap[k]? = W.heap[k]?) -> ∀ (g : Nat) (v : Value), W.cell? ⟨g, 0, none⟩ = some v -> V.cell? ⟨g, 0, none⟩ = some v := fun V hk g v h => (World.cell?_of_block (a := ⟨g, 0, none⟩) (hk g (lt_of_cellH h))).trans h
 have hin : LawIn ad (fun w => ∃ z, w.cell? ⟨11, 0, none⟩ = some (.iface 234 (.pointer (some z)))) bd pc cc l pl W :=
  ⟨fun V _ hk => ⟨⟨hcell V hk _ _ hS.c1, hcell V hk _ _ hS.c2, hcell V hk _ _ hS.c3, hcell V hk _ _ hS.c4, hcell V hk _ _ hS.c5⟩, ⟨_, hcell V hk _ _ hS.c11⟩⟩, fun V hb => hS.below hb, hsc.strs, hsc.room, hsc.empty, hic, hwho, hop, hcfg, hsc.len, hsc.size, by omega, hms, hvi⟩
 refine (askHears_any (askOk ad) (fun ⟨_, _, _, _, _, _, _, hp⟩ => hp.fine) bd pc cc l pl cl W hin).mono fun e W' ⟨he, hb⟩ => ?_
 subst he
 exact ⟨_, rfl, _, _, _, [], _, [], hW', trodAll_mk1 (shut_bool Tryz.underlying4 _), (trodAll_cons_mk (Below.trod aLaidOut (by kernel_rfl) (of_decide_eq_true (by kernel_rfl)) k0 hb lt0) (trodAll_cons_mk (Below.trod aLaidOut (by kernel_rfl) (of_decide_eq_true (by kernel_rfl)) k1 hb lt1) trodAll_mk0)), rfl, hb.frame _, fun h => by cases h⟩
set_option maxRecDepth 100000 in
theorem askHears_lifted (os : Os) (started : os.Started) (H : Type) (enc : TypeId × Value -> H) (F : Stop.Interp) :
 ReturnsInHanded {} Tryz.checked os 3 .any ((Rows.OpenSpec.upto Rows.askHearsSpec).preRow enc Tryz.prog Tryz.f3 Rows.askHearsUptoRow.domain false Rows.askHearsUptoRow.laid) (((Rows.OpenSpec.upto Rows.askHearsSpec).at F).post enc Tryz.prog Tryz.f3 false true false false) := by
 refine returnsInHanded_of_row (C := Tryz.checked) (s := Rows.OpenSpec.upto Rows.askHearsSpec) askHears_own started (by kernel_rfl) Tryz.func3
  (witness_row_atRef (enc := enc) (C := Tryz.checked) false (World.doorLaid Tryz.prog 259 os) #[noBid, .slice none 0 0] rfl (by kernel_rfl) (by kernel_rfl) (by kernel_rfl)
   (OpenSpec.preRow_of_cond 8 (askHears_reads os enc) (by kernel_rfl) (fun k hk => by cases hk; kernel_rfl) (by kernel_rfl) (askHears_door os _))) ?_
 intro W base args ds gs before hval hW _ hcond _ hL _ _
 exact askHears_contract H enc W base args ds gs before hval hW hL (hcond _ rfl)
theorem askHears_row : Rows.AskHearsUptoSaid :=
 OpenClaim.holds_of_cond 3 Tryz.f3 rfl rfl rfl rfl rfl rfl rfl ⟨rfl, rfl, rfl, rfl, rfl⟩ rfl rfl rfl rfl rfl (by kernel_rfl) Tryz.func3 (by kernel_rfl)
  (of_decide_eq_true (by kernel_rfl)) (by unfold Func.isWrapper; rw [if_neg (of_decide_eq_false (by kernel_rfl))]; exact ⟨rfl, rfl⟩)
  (fun os started H enc _ F => by rw [OpenClaim.pre_eq_preRow]; exact askHears_lifted os started H enc F)
theorem askHearsUpto_holds : Rows.AskHearsUptoCardSaid :=
 Claim7.holds_tied_plain_at .later [] [.data, .data, .data, .handle, .sentinel, .sentinel, .sentinel, .sentinel, .sentinel, .sentinel, .sentinel, .sentinel, .sentinel, .sentinel, .sentinel, .sentinel] true (true, "b8964c9a1d22e9e6ad297280d9509c118a4b5a1b343a4f10bbc8c8fb228fbe54") true
  askHears_row (fun _ h => by cases h) (by kernel_rfl) (fun _ h => by cases h) askHearsUpto_row_tie rfl ⟨rfl, rfl⟩ (by kernel_rfl) rfl
  (fun f fn hf hfn => by
   obtain rfl : f = 3 := Option.some.inj ((show _ = some 3 by kernel_rfl).symm.trans hf) |>.symm
   obtain rfl : fn = Tryz.f3 := (Option.some.inj (Tryz.func3.symm.trans hfn)).symm
   exact ⟨by kernel_rfl, fun j t ht => by
    rw [Tryz.params3] at ht
    have hm : t ∈ [26, 27] := by simpa using Array.mem_of_getElem? ht
    have hall : ([26, 27].all fun u => !Tryz.prog.wantsStandIn u) = true := by kernel_rfl
    exact (show Tryz.prog.wantsStandIn t = false by simpa using List.all_eq_true.1 hall t hm)⟩)
  (by kernel_rfl)
#print axioms askHearsUpto_holds
end Go.Proofs.YtobmckfcipeanaaGreatDoor
