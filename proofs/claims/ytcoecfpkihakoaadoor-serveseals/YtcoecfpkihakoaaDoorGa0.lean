/- The five errors of a node's shards, in their variables. -/
import Derived.Test.YtcoecfpkihakoaaDoorProg
import Derived.Below
import Derived.WalkKit
import Derived.Shelf.LaysM
import Derived.Shelf.Strconv.Clone
import Derived.Shelf.GgClosure.StringsIndexFuncTop
import Derived.LaidEql
import Derived.Test.YtcoecfpkihakoaaDoorRows
import Derived.ProofKit
import Derived.LaidLaws
import Derived.LaidHandle
import Derived.LaidMore
import Derived.Stop.LaidErr
namespace Go.Proofs.YtcoecfpkihakoaaDoor
open Go.RowKit
theorem lt_of_cellE {w : World} {b o : Nat} {v : Value} (h : w.cell? ⟨b, o, none⟩ = some v) : b < w.heap.size := by
  rcases Nat.lt_or_ge b w.heap.size with h' | h'
  · exact h'
  · simp [World.cell?, Array.getElem?_eq_none h'] at h
/-- Errors that a node's shards have lie in their variables. -/
structure HErrs (w : World) (ad : Nat → Addr) : Prop where
  c1 : w.cell? ⟨2, 0, none⟩ = some (.iface 85 (.pointer (some (ad 1))))
  c3 : w.cell? ⟨0, 0, none⟩ = some (.iface 85 (.pointer (some (ad 3))))
  c5 : w.cell? ⟨3, 0, none⟩ = some (.iface 85 (.pointer (some (ad 5))))
  c6 : w.cell? ⟨4, 0, none⟩ = some (.iface 85 (.pointer (some (ad 6))))
  c9 : w.cell? ⟨1, 0, none⟩ = some (.iface 85 (.pointer (some (ad 9))))
theorem HErrs.below {w w' : World} {ad : Nat → Addr} (h : HErrs w ad) (hb : Below w.heap.size w w') : HErrs w' ad where
  c1 := (hb.cell (lt_of_cellE h.c1)).trans h.c1
  c3 := (hb.cell (lt_of_cellE h.c3)).trans h.c3
  c5 := (hb.cell (lt_of_cellE h.c5)).trans h.c5
  c6 := (hb.cell (lt_of_cellE h.c6)).trans h.c6
  c9 := (hb.cell (lt_of_cellE h.c9)).trans h.c9
theorem HErrs.keepBlocks {W V : World} {ad : Nat → Addr} (h : HErrs W ad) (hk : ∀ k, k < W.heap.size → V.heap[k]? = W.heap[k]?) : HErrs V ad where
  c1 := (World.cell?_of_block (w := W) (w' := V) (hk _ (lt_of_cellE h.c1))).trans h.c1
  c3 := (World.cell?_of_block (w := W) (w' := V) (hk _ (lt_of_cellE h.c3))).trans h.c3
  c5 := (World.cell?_of_block (w := W) (w' := V) (hk _ (lt_of_cellE h.c5))).trans h.c5
  c6 := (World.cell?_of_block (w := W) (w' := V) (hk _ (lt_of_cellE h.c6))).trans h.c6
  c9 := (World.cell?_of_block (w := W) (w' := V) (hk _ (lt_of_cellE h.c9))).trans h.c9
end Go.Proofs.YtcoecfpkihakoaaDoor
/- Functions of the library at this program. -/
namespace Go.Proofs
open Go.Shelf
def Tryd.lays316_ren : Go.Shelf.Ren := ⟨fun | 316 => 22 | n => n, fun | 9 => 9 | 3 => 3 | 4 => 4 | 37 => 69 | 0 => 0 | 127 => 70 | 5 => 5 | n => n, fun | n => n⟩
theorem Tryd.lays316 : Go.Proofs.LaysM.n316 Tryd.prog Tryd.lays316_ren := {
  mixed := by kernel_rfl
  f316 := Tryd.func22.trans (congrArg some (by kernel_rfl))
  t0 := Tryd.underlying0
  a0 := Tryd.isAgg0
  z0 := Tryd.sizeOf0
  v0 := Tryd.zeroValue0
  t3 := Tryd.underlying3
  a3 := Tryd.isAgg3
  z3 := Tryd.sizeOf3
  v3 := Tryd.zeroValue3
  t4 := Tryd.underlying4
  a4 := Tryd.isAgg4
  z4 := Tryd.sizeOf4
  v4 := Tryd.zeroValue4
  t9 := Tryd.underlying9
  a9 := Tryd.isAgg9
  z9 := Tryd.sizeOf9
  v9 := Tryd.zeroValue9
  t37 := Tryd.underlying69
  a37 := Tryd.isAgg69
  z37 := Tryd.sizeOf69
  v37 := Tryd.zeroValue69
  t127 := Tryd.underlying70
  a127 := Tryd.isAgg70
  z127 := Tryd.sizeOf70
  v127 := Tryd.zeroValue70
  t5 := Tryd.underlying5
  a5 := Tryd.isAgg5
  z5 := Tryd.sizeOf5
  v5 := Tryd.zeroValue5
  i0 := by kernel_rfl
  i3 := by kernel_rfl
  i4 := by kernel_rfl
  i5 := by kernel_rfl
  i9 := by kernel_rfl
  i37 := by kernel_rfl
  i127 := by kernel_rfl }
open Go.RowKit in
/-- internal/stringslite.Clone. -/
theorem Tryd.stringslite_Clone (s : ByteArray) (w : World) (hlim : s.size ≤ 281474976710656) :
    Calls Tryd.prog 22 #[.string s] w fun e w' => e = .returned (.string s) ∧ Below w.heap.size w w' := Any.stringslite_Clone Tryd.lays316 s w hlim
def Tryd.laysGw17_ren : Go.Shelf.Ren := ⟨fun | 17 => 20 | 15 => 30 | 20 => 39 | n => n, fun | 9 => 9 | 23 => 57 | 4 => 4 | 3 => 3 | 0 => 0 | 21 => 21 | n => n, fun | n => n⟩
theorem Tryd.laysGw17 : Go.Proofs.LaysGw.n17 Tryd.prog Tryd.laysGw17_ren := {
  mixed := by kernel_rfl
  f15 := Tryd.func30.trans (congrArg some (by kernel_rfl))
  f17 := Tryd.func20.trans (congrArg some (by kernel_rfl))
  f20 := Tryd.func39.trans (congrArg some (by kernel_rfl))
  t0 := Tryd.underlying0
  a0 := Tryd.isAgg0
  z0 := Tryd.sizeOf0
  v0 := Tryd.zeroValue0
  i0 := by kernel_rfl
  t3 := Tryd.underlying3
  a3 := Tryd.isAgg3
  z3 := Tryd.sizeOf3
  v3 := Tryd.zeroValue3
  i3 := by kernel_rfl
  t4 := Tryd.underlying4
  a4 := Tryd.isAgg4
  z4 := Tryd.sizeOf4
  v4 := Tryd.zeroValue4
  i4 := by kernel_rfl
  t9 := Tryd.underlying9
  a9 := Tryd.isAgg9
  z9 := Tryd.sizeOf9
  v9 := Tryd.zeroValue9
  i9 := by kernel_rfl
  t21 := Tryd.underlying21
  a21 := Tryd.isAgg21
  z21 := Tryd.sizeOf21
  v21 := Tryd.zeroValue21
  i21 := by kernel_rfl
  t23 := Tryd.underlying57
  a23 := Tryd.isAgg57
  z23 := Tryd.sizeOf57
  v23 := Tryd.zeroValue57
  i23 := by kernel_rfl }
open Go.RowKit in
/-- strings.ContainsFunc. -/
theorem Tryd.strings_ContainsFunc (g : Nat) (lb : Array Value) (eg : ∀ args w, (callFunc g args).run Tryd.prog w = .ok (.enter g args) w) (p : Nat → Bool) (s : ByteArray) (w : World) (hp : PredAt Tryd.prog g lb encR p w) :
    Calls Tryd.prog 20 #[.string s, .func (.func g) #[] lb] w fun e w' => e = .returned (.bool (decide (0 ≤ Lib.idxFunc p true s))) ∧ Below w.heap.size w w' := Any.strings_ContainsFunc Tryd.laysGw17 g lb eg p s w hp
end Go.Proofs
/- The five errors of a node's shards, in their variables, each its own. -/
namespace Go.Proofs.YtcoecfpkihakoaaDoor
open Go.RowKit
structure HErrX (w : World) (ad : Nat → Addr) : Prop where
  errs : HErrs w ad
  row : ∀ i, i = 1 ∨ i = 3 ∨ i = 5 ∨ i = 6 ∨ i = 9 → ∃ c t, w.heap[(ad i).block]? = some (.cells c t (0, 0))
  ne : ∀ i, i = 1 ∨ i = 3 ∨ i = 5 ∨ i = 6 → ad i ≠ ad 9
theorem lt_of_blk {w : World} {b : Nat} {o : Obj} (h : w.heap[b]? = some o) : b < w.heap.size := by
  rcases Nat.lt_or_ge b w.heap.size with h' | h'
  · exact h'
  · rw [Array.getElem?_eq_none h'] at h; cases h
theorem HErrX.keepBlocks {W V : World} {ad : Nat → Addr} (h : HErrX W ad) (hk : ∀ k, k < W.heap.size → V.heap[k]? = W.heap[k]?) : HErrX V ad where
  errs := h.errs.keepBlocks hk
  row := fun i hi => by
    obtain ⟨c, t, e⟩ := h.row i hi
    exact ⟨c, t, (hk _ (lt_of_blk e)).trans e⟩
  ne := h.ne
theorem errComp : (Tryd.prog.info? 85).map (·.comparable) = some true := by kernel_rfl
theorem errSize : (Tryd.prog.info? 101).map (·.size) = some 1 := by kernel_rfl
/-- Two errors, held against each other. -/
theorem eqE_same (a : Addr) (w : World) : (binOp .eql 33 (.iface 85 (.pointer (some a))) (.iface 85 (.pointer (some a)))).run Tryd.prog w = .ok (.bool true) w ∧ (binOp .neq 33 (.iface 85 (.pointer (some a))) (.iface 85 (.pointer (some a)))).run Tryd.prog w = .ok (.bool false) w := by
  obtain ⟨i, hi, hcmp⟩ := Option.map_eq_some_iff.1 errComp
  obtain ⟨j, hj, _⟩ := Option.map_eq_some_iff.1 errSize
  refine ⟨run_eql_iface_ptr_same (P := Tryd.prog) w a Tryd.underlying33 Tryd.underlying85 hi hcmp hj, ?_⟩
  simp only [binOp]
  simp [Op.equal, Op.maxDepth, run_equalIn_iface_ptr_same (P := Tryd.prog) w 9998 a Tryd.underlying33 Tryd.underlying85 hi hcmp hj]
theorem eqE_other {a b : Addr} {ca cb : Array Value} {ta tb : TypeId} {w : World} (hne : a ≠ b) (ha : w.heap[a.block]? = some (.cells ca ta (0, 0))) (hb : w.heap[b.block]? = some (.cells cb tb (0, 0))) : (binOp .eql 33 (.iface 85 (.pointer (some a))) (.iface 85 (.pointer (some b)))).run Tryd.prog w = .ok (.bool false) w ∧ (binOp .neq 33 (.iface 85 (.pointer (some a))) (.iface 85 (.pointer (some b)))).run Tryd.prog w = .ok (.bool true) w := by
  obtain ⟨i, hi, hcmp⟩ := Option.map_eq_some_iff.1 errComp
  obtain ⟨j, hj, hjs⟩ := Option.map_eq_some_iff.1 errSize
  refine ⟨run_eql_iface_ptr_other (P := Tryd.prog) w Tryd.underlying33 Tryd.underlying85 hi hcmp hj (by rw [hjs]; decide) hne ha hb, ?_⟩
  simp only [binOp]
  simp [Op.equal, Op.maxDepth, run_equalIn_iface_ptr_other (P := Tryd.prog) w 9998 Tryd.underlying33 Tryd.underlying85 hi hcmp hj (by rw [hjs]; decide) hne ha hb]
theorem eqE_nil (tp : TypeId) (v : Value) (w : World) : (binOp .eql 33 .nilIface (.iface tp v)).run Tryd.prog w = .ok (.bool false) w := run_eql_iface_nil_left (P := Tryd.prog) w tp v Tryd.underlying33
end Go.Proofs.YtcoecfpkihakoaaDoor
/- Errors that the program's text lays in their variables: each its own pointer. -/
namespace Go.Proofs.YtcoecfpkihakoaaDoor
open Go.ChangeShapes Go.WideShapes Go.RowKit
def errD (text : List UInt8) : DataW Unit := .iface "*errors.errorString" (.ptr (.agg [.lit (.string text)]))
theorem sents {P : Program} {W : World} {ti tp te ts : TypeId} {ms : Array (String × TypeId)} {f : Field}
    (hi : P.underlying ti = some (.interface ms)) (hrow : ∀ u, P.typeName? 3 u = some "*errors.errorString" → u = tp)
    (hp : P.underlying tp = some (.pointer te)) (he : P.underlying te = some (.struct #[f])) (hft : f.type = ts) (hfo : f.offset = 0) (hs : P.underlying ts = some .string) (hc : P.cellsOf te = 1) (hcs : P.cellsOf ts = 1) :
    ∀ (L : List (String × List UInt8)) (ps : List MemPlace), DataW.LaidVars P W (L.map fun x => (x.1, errD x.2)) ps →
      (∀ x ∈ L, ∃ g, P.globalNamed x.1 = some g ∧ (P.globals[g]?).map (·.type) = some ti) →
      (∀ b off, MemPlace.cell b off ∈ ps → (∃ c t, W.heap[b]? = some (.cells c t (0, 0))) ∧ ∀ u v, W.cell? ⟨b, off, none⟩ = some (.iface u v) → Value.okWide P W .any 0 u v) →
      ∃ ad : Nat → Addr, (∀ i x, L[i]? = some x → MemPlace.cell (ad i).block (ad i).off ∈ ps ∧ W.var? P x.1 = some #[.iface tp (.pointer (some (ad i)))]) ∧
        (ps.Nodup → ∀ i j, i < L.length → j < L.length → i ≠ j → ad i ≠ ad j) := by
  intro L
  induction L with
  | nil =>
    intro ps _ _ _
    exact ⟨fun _ => ⟨0, 0, none⟩, fun i x h => by simp at h, fun _ i j h => by simp at h⟩
  | cons x r ih =>
    intro ps hl hn hr
    obtain ⟨g0, t0, cs0, f0, p0, q0, hg0, ht0, hv0, hd0, hq, rfl⟩ := hl
    obtain ⟨g, hg, ht⟩ := hn x (List.mem_cons_self ..)
    obtain rfl := Option.some.inj (hg.symm.trans hg0)
    obtain rfl := Option.some.inj (ht.symm.trans ht0)
    obtain ⟨ad, h1, h2⟩ := ih q0 hq (fun y hy => hn y (List.mem_cons_of_mem _ hy)) (fun b off hm => hr b off (List.mem_append_right _ hm))
    obtain ⟨l0⟩ := cs0
    have ok0 : ∀ u v, l0 = [.iface u v] → Value.okWide P W .any 0 u v := fun u v e => by
      subst e
      exact (hr g 0 (by simp [MemPlace.row])).2 u v (by simpa using World.var?_cell hg0 hv0 0)
    obtain ⟨a0, s0, rfl, hc0, hs0, hz0, rfl⟩ := errorString_of_trod hi hrow hp he hft hfo hs hc hcs hd0 ok0
    refine ⟨fun i => match i with | 0 => a0 | k + 1 => ad k, ?_, ?_⟩
    · intro i y hy
      match i with
      | 0 =>
        obtain rfl : x = y := by simpa using hy
        exact ⟨by simp [MemPlace.row], hv0⟩
      | k + 1 =>
        have := h1 k y (by simpa using hy)
        exact ⟨List.mem_append_right _ this.1, this.2⟩
    · intro hnd i j hi' hj' hij
      have hq' : q0.Nodup := List.Nodup.sublist (List.sublist_append_right _ _) hnd
      have hd : ∀ k, k < r.length → a0 ≠ ad k := by
        intro k hk e
        obtain ⟨y, hy⟩ : ∃ y, r[k]? = some y := ⟨r[k], List.getElem?_eq_getElem hk⟩
        have hm := (h1 k y hy).1
        rw [← e] at hm
        have hdis := (List.nodup_append.1 hnd).2.2
        exact hdis _ (List.mem_append_right _ (by simp [MemPlace.row])) _ hm rfl
      match i, j, hi', hj', hij with
      | 0, 0, _, _, h => exact absurd rfl h
      | 0, k + 1, _, hk, _ => exact hd k (by simpa using hk)
      | k + 1, 0, hk, _, _ => exact (hd k (by simpa using hk)).symm
      | k + 1, m + 1, hk, hm, hne => exact h2 hq' k m (by simpa using hk) (by simpa using hm) (fun e => hne (by rw [e]))

/-- What is laid ahead of others: what is left behind it. -/
theorem laid_peel {P : Program} {W : World} : ∀ (L M : List (String × DataW Unit)) (ps : List MemPlace), DataW.LaidVars P W (L ++ M) ps → ∃ p q, ps = p ++ q ∧ DataW.LaidVars P W M q
  | [], _, ps, h => ⟨[], ps, rfl, h⟩
  | x :: L, M, ps, h => by
    obtain ⟨g0, t0, cs0, f0, p0, q0, hg0, ht0, hv0, hd0, hq, rfl⟩ := h
    obtain ⟨p, q, rfl, h2⟩ := laid_peel L M q0 hq
    exact ⟨_, q, (List.append_assoc _ _ _).symm, h2⟩
theorem star_es : "*" ++ "errors.errorString" = "*errors.errorString" := by kernel_rfl
theorem row_es (u : TypeId) (h : Tryd.prog.typeName? 3 u = some "*errors.errorString") : u = 85 :=
  typeName_ptr_named (nm := "errors.errorString") (by rw [star_es]; kernel_rfl) (by kernel_rfl) (by decide) u (by rw [star_es]; exact h)
end Go.Proofs.YtcoecfpkihakoaaDoor
/- From the condition that the listed package-level variables read as the program's text lays them: the five errors of a node's shards, each in its variable, each its own. -/
namespace Go.Proofs.YtcoecfpkihakoaaDoor
open Go.ChangeShapes Go.WideShapes Go.RowKit
/-- The five, by name and text. -/
def L5 : List (String × List UInt8) := Rows.serveSealsRow.laid.map fun x => (x.1, match x.2 with | .iface _ (.ptr (.agg [.lit (.string t)])) => t | _ => [])
theorem laid5_split (W : World) : laidMetH Tryd.prog Rows.serveSealsRow.laid W = laidMet Tryd.prog ([] ++ L5.map fun x => (x.1, errD x.2)) W := by kernel_rfl
theorem L5_named : (L5.all fun x => match Tryd.prog.globalNamed x.1 with | some g => (Tryd.prog.globals[g]?).map (·.type) == some 33 | none => false) = true := by kernel_rfl
theorem g5 : L5.map (fun x => Tryd.prog.globalNamed x.1) = [some 2, some 0, some 3, some 4, some 1] := by kernel_rfl
theorem herrx_of_laid {W : World} (h : laidMetH Tryd.prog Rows.serveSealsRow.laid W) : ∃ ad, HErrX W ad := by
  rw [laid5_split] at h
  obtain ⟨ps0, hl0, hnd0, hr0⟩ := h
  obtain ⟨pp, ps, rfl, hl⟩ := laid_peel _ _ _ hl0
  have hnd : ps.Nodup := List.Nodup.sublist (List.sublist_append_right _ _) hnd0
  have hr := fun b off (hm : MemPlace.cell b off ∈ ps) => hr0 b off (List.mem_append_right _ hm)
  have hn : ∀ x ∈ L5, ∃ g, Tryd.prog.globalNamed x.1 = some g ∧ (Tryd.prog.globals[g]?).map (·.type) = some 33 := by
    intro x hx
    have := List.all_eq_true.1 L5_named x hx
    split at this
    · rename_i g hg
      exact ⟨g, hg, by simpa using this⟩
    · cases this
  have c57 : Tryd.prog.cellsOf 101 = 1 := by kernel_rfl
  have c9 : Tryd.prog.cellsOf 9 = 1 := by kernel_rfl
  obtain ⟨ad, h1, h2⟩ := sents Tryd.underlying33 row_es Tryd.underlying85 Tryd.underlying101 rfl rfl Tryd.underlying9 c57 c9 L5 ps hl hn hr
  have cellg : ∀ i g, (L5.map (fun x => Tryd.prog.globalNamed x.1))[i]? = some (some g) → W.cell? ⟨g, 0, none⟩ = some (.iface 85 (.pointer (some (ad i)))) := by
    intro i g hx
    rw [List.getElem?_map] at hx
    obtain ⟨x, hx1, hx2⟩ := Option.map_eq_some_iff.1 hx
    simpa using World.var?_cell hx2 (h1 i x hx1).2 0
  rw [g5] at cellg
  have len : L5.length = 5 := rfl
  have hrow : ∀ i, i < 5 → ∃ c t, W.heap[(ad i).block]? = some (.cells c t (0, 0)) := fun i hi => by
    obtain ⟨x, hx⟩ : ∃ x, L5[i]? = some x := ⟨L5[i]'(by rw [len]; exact hi), List.getElem?_eq_getElem (by rw [len]; exact hi)⟩
    exact (hr _ _ (h1 i x hx).1).1
  have hne : ∀ i, i < 4 → ad i ≠ ad 4 := fun i hi => h2 hnd i 4 (by rw [len]; omega) (by rw [len]; omega) (by omega)
  refine ⟨fun i => match i with | 1 => ad 0 | 3 => ad 1 | 5 => ad 2 | 6 => ad 3 | _ => ad 4, ⟨cellg 0 _ rfl, cellg 1 _ rfl, cellg 2 _ rfl, cellg 3 _ rfl, cellg 4 _ rfl⟩, ?_, ?_⟩
  · rintro i (rfl | rfl | rfl | rfl | rfl)
    · exact hrow 0 (by decide)
    · exact hrow 1 (by decide)
    · exact hrow 2 (by decide)
    · exact hrow 3 (by decide)
    · exact hrow 4 (by decide)
  · rintro i (rfl | rfl | rfl | rfl)
    · exact hne 0 (by decide)
    · exact hne 1 (by decide)
    · exact hne 2 (by decide)
    · exact hne 3 (by decide)
end Go.Proofs.YtcoecfpkihakoaaDoor
