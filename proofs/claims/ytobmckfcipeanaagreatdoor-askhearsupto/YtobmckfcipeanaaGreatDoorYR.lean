import Derived.Test.YtobmckfcipeanaaGreatDoorRows
import Derived.ProofKit
import Derived.LaidLaws
import Derived.LaidHandle
import Derived.LaidMore
import Derived.Stop.LaidErr
import Derived.Test.YtobmckfcipeanaaGreatDoorZE
namespace Go.Proofs.YtobmckfcipeanaaGreatDoor
open Go.ChangeShapes Go.WideShapes Go.RowKit
def errD (text : List UInt8) : DataW Unit := .iface "*errors.errorString" (.ptr (.agg [.lit (.string text)]))
theorem sents {P : Program} {W : World} {ti tp te ts : TypeId} {ms : Array (String × TypeId)} {f : Field}
 (hi : P.underlying ti = some (.interface ms)) (hrow : ∀ u, P.typeName? 3 u = some "*errors.errorString" -> u = tp)
 (hp : P.underlying tp = some (.pointer te)) (he : P.underlying te = some (.struct #[f])) (hft : f.type = ts) (hfo : f.offset = 0) (hs : P.underlying ts = some .string) (hc : P.cellsOf te = 1) (hcs : P.cellsOf ts = 1) :
 ∀ (L : List (String × List UInt8)) (ps : List MemPlace), DataW.LaidVars P W (L.map fun x => (x.1, errD x.2)) ps ->
  (∀ x ∈ L, ∃ g, P.globalNamed x.1 = some g /\ (P.globals[g]?).map (·.type) = some ti) ->
  (∀ b off, MemPlace.cell b off ∈ ps -> (∃ c t, W.heap[b]? = some (.cells c t (0, 0))) /\ ∀ u v, W.cell? ⟨b, off, none⟩ = some (.iface u v) -> Value.okWide P W .any 0 u v) ->
  ∃ ad : Nat -> Addr, (∀ i x, L[i]? = some x -> MemPlace.cell (ad i).block (ad i).off ∈ ps /\ W.var? P x.1 = some #[.iface tp (.pointer (some (ad i)))]) /\
   (ps.Nodup -> ∀ i j, i < L.length -> j < L.length -> i ≠ j -> ad i ≠ ad j) := by
 intro L
 induction L with
 | nil =>
  intro ps _ _ _
  exact ⟨fun _ => ⟨0, 0, none⟩, fun i x h => by simp at h, fun _ i j h => by simp at h⟩
 | cons x r ih =>
  intro ps hl hn hr
  obtain ⟨g0, t0, cs0, f0, p0, q0, hg0, ht0, hv0, hd0, hq, rfl⟩ := hl
  obtain ⟨g, hg, ht⟩ := hn x (List.mem_cons_self ..)
  obtain rfl := Option.some.inj (hg.symm.trans hg0)
  obtain rfl := Option.some.inj (ht.symm.trans ht0)
  obtain ⟨ad, h1, h2⟩ := ih q0 hq (fun y hy => hn y (List.mem_cons_of_mem _ hy)) (fun b off hm => hr b off (List.mem_append_right _ hm))
  obtain ⟨l0⟩ := cs0
  have ok0 : ∀ u v, l0 = [.iface u v] -> Value.okWide P W .any 0 u v := fun u v e => by
   subst e
   exact (hr g 0 (by simp [MemPlace.row])).2 u v (by simpa using World.var?_cell hg0 hv0 0)
  obtain ⟨a0, s0, rfl, hc0, hs0, hz0, rfl⟩ := errorString_of_trod hi hrow hp he hft hfo hs hc hcs hd0 ok0
  refine ⟨fun i => match i with | 0 => a0 | k + 1 => ad k, ?_, ?_⟩
  ·intro i y hy
   match i with
   | 0 =>
    obtain rfl : x = y := by simpa using hy
    exact ⟨by simp [MemPlace.row], hv0⟩
   | k + 1 =>
    have := h1 k y (by simpa using hy)
    exact ⟨List.mem_append_right _ this.1, this.2⟩
  ·intro hnd i j hi' hj' hij
   have hq' : q0.Nodup := List.Nodup.sublist (List.sublist_append_right _ _) hnd
   have hd : ∀ k, k < r.length -> a0 ≠ ad k := by
    intro k hk e
    obtain ⟨y, hy⟩ : ∃ y, r[k]? = some y := ⟨r[k], List.getElem?_eq_getElem hk⟩
    have hm := (h1 k y hy).1
    rw [<- e] at hm
    have hdis := (List.nodup_append.1 hnd).2.2
    exact hdis _ (List.mem_append_right _ (by simp [MemPlace.row])) _ hm rfl
   match i, j, hi', hj', hij with
   | 0, 0, _, _, h => exact absurd rfl h
   | 0, k + 1, _, hk, _ => exact hd k (by simpa using hk)
   | k + 1, 0, hk, _, _ => exact (hd k (by simpa using hk)).symm
   | k + 1, m + 1, hk, hm, hne => exact h2 hq' k m (by simpa using hk) (by simpa using hm) (fun e => hne (by rw [e]))
theorem laid_peel {P : Program} {W : World} : ∀ (L M : List (String × DataW Unit)) (ps : List MemPlace), DataW.LaidVars P W (L ++ M) ps -> ∃ p q, ps = p ++ q /\ DataW.LaidVars P W M q
 | [], _, ps, h => ⟨[], ps, rfl, h⟩
 | x :: L, M, ps, h => by
  obtain ⟨g0, t0, cs0, f0, p0, q0, hg0, ht0, hv0, hd0, hq, rfl⟩ := h
  obtain ⟨p, q, rfl, h2⟩ := laid_peel L M q0 hq
  exact ⟨_, q, (List.append_assoc _ _ _).symm, h2⟩
theorem star_es : "*" ++ "errors.errorString" = "*errors.errorString" := by kernel_rfl
theorem row_es (u : TypeId) (h : Tryz.prog.typeName? 3 u = some "*errors.errorString") : u = 234 :=
 typeName_ptr_named (nm := "errors.errorString") (by rw [star_es]; kernel_rfl) (by kernel_rfl) (by decide) u (by rw [star_es]; exact h)
end Go.Proofs.YtobmckfcipeanaaGreatDoor
namespace Go.Proofs.YtobmckfcipeanaaGreatDoor
open Go.ChangeShapes Go.WideShapes Go.RowKit
def L12 : List (String × List UInt8) := (Rows.askHearsRow.laid.drop (3 + 1)).map fun x => (x.1, match x.2 with | .iface _ (.ptr (.agg [.lit (.string t)])) => t | _ => [])
theorem laid_split (W : World) : laidMetH Tryz.prog Rows.askHearsRow.laid W = (laidMet Tryz.prog (Rows.askHearsRow.laid.take 3 ++ L12.map fun x => (x.1, errD x.2)) W /\ handlesMet Tryz.prog ((Rows.askHearsRow.laid.drop 3).take 1) W) := by kernel_rfl
theorem L12_named : (L12.all fun x => match Tryz.prog.globalNamed x.1 with | some g => (Tryz.prog.globals[g]?).map (·.type) == some 33 | none => false) = true := by kernel_rfl
theorem g12 : L12.map (fun x => Tryz.prog.globalNamed x.1) = [some 3, some 0, some 2, some 1, some 4, some 5, some 6, some 7, some 8, some 9, some 10, some 11] := by kernel_rfl
theorem etNamed : Tryz.prog.globalNamed "errors.errorType" = some 12 := by kernel_rfl
theorem errOneRow : ((List.range 265).filter fun t => Tryz.prog.rowNamed t [101, 114, 114, 111, 114]) = [33] := by kernel_rfl
theorem typesSize : Tryz.prog.types.size = 265 := by kernel_rfl
theorem sent_of_laid {W : World} (h : laidMetH Tryz.prog Rows.askHearsRow.laid W) : ∃ ad, Sent W ad := by
 rw [laid_split] at h
 obtain ⟨⟨ps0, hl0, hnd0, hr0⟩, hH⟩ := h
 obtain ⟨pp, ps, rfl, hl⟩ := laid_peel _ _ _ hl0
 have hnd : ps.Nodup := List.Nodup.sublist (List.sublist_append_right _ _) hnd0
 have hr := fun b off (hm : MemPlace.cell b off ∈ ps) => hr0 b off (List.mem_append_right _ hm)
 clear hl0 hnd0 hr0
 have hn : ∀ x ∈ L12, ∃ g, Tryz.prog.globalNamed x.1 = some g /\ (Tryz.prog.globals[g]?).map (·.type) = some 33 := by
  intro x hx
  have := List.all_eq_true.1 L12_named x hx
  split at this
  ·rename_i g hg
   exact ⟨g, hg, by simpa using this⟩
  ·cases this
 have c57 : Tryz.prog.cellsOf 253 = 1 := by kernel_rfl
 have c9 : Tryz.prog.cellsOf 9 = 1 := by kernel_rfl
 obtain ⟨ad, h1, h2⟩ := sents Tryz.underlying33 row_es Tryz.underlying234 Tryz.underlying253 rfl rfl Tryz.underlying9 c57 c9 L12 ps hl hn hr
 have cell : ∀ i g x, L12[i]? = some x -> Tryz.prog.globalNamed x.1 = some g -> W.cell? ⟨g, 0, none⟩ = some (.iface 234 (.pointer (some (ad i)))) := by
  intro i g x hx hg
  simpa using World.var?_cell hg (h1 i x hx).2 0
 have cellg : ∀ i g, (L12.map (fun x => Tryz.prog.globalNamed x.1))[i]? = some (some g) -> W.cell? ⟨g, 0, none⟩ = some (.iface 234 (.pointer (some (ad i)))) := by
  intro i g hx
  rw [List.getElem?_map] at hx
  obtain ⟨x, hx1, hx2⟩ := Option.map_eq_some_iff.1 hx
  exact cell i g x hx1 hx2
 rw [g12] at cellg
 have len : L12.length = 12 := rfl
 refine ⟨ad, cellg 0 _ rfl, cellg 1 _ rfl, cellg 2 _ rfl, cellg 3 _ rfl, cellg 4 _ rfl, cellg 5 _ rfl, cellg 6 _ rfl, cellg 7 _ rfl, cellg 8 _ rfl, cellg 9 _ rfl, cellg 10 _ rfl, cellg 11 _ rfl, ?_, ?_, fun i j hi hj => h2 hnd i j (by rw [len]; exact hi) (by rw [len]; exact hj)⟩
 ·obtain ⟨name, u, ty, e1, e2, e3, e4, e5⟩ := hH _ (List.mem_singleton.2 rfl)
  have en : name = [101, 114, 114, 111, 114] := (Option.some.inj e1).symm
  subst en
  obtain rfl : 189 = u := Option.some.inj ((show _ = some 189 by kernel_rfl).symm.trans e2)
  have hm : ty ∈ (List.range 265).filter fun t => Tryz.prog.rowNamed t [101, 114, 114, 111, 114] := List.mem_filter.2 ⟨List.mem_range.2 (by rw [<- typesSize]; exact e3), e4⟩
  rw [errOneRow] at hm
  obtain rfl := List.mem_singleton.1 hm
  have hh : typeHandle Tryz.prog 33 = .pointer (some ⟨17, 33, none⟩) := by kernel_rfl
  rw [hh] at e5
  simpa using World.var?_cell etNamed e5 0
 ·intro i hi
  obtain ⟨x, hx⟩ : ∃ x, L12[i]? = some x := ⟨L12[i]'(by rw [len]; exact hi), List.getElem?_eq_getElem (by rw [len]; exact hi)⟩
  exact (hr _ _ (h1 i x hx).1).1
theorem own : ownKnob Tryz.prog.godebug = none := by kernel_rfl
end Go.Proofs.YtobmckfcipeanaaGreatDoor
