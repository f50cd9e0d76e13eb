/- Errors that the program's text lays in their variables: each its own pointer. -/
import Derived.Test.YtgjehnahkbddgaaGreatDoorRows
import Derived.ProofKit
import Derived.LaidLaws
import Derived.LaidHandle
import Derived.LaidMore
import Derived.Stop.LaidErr
namespace Go.Proofs.YtgjehnahkbddgaaGreatDoor
open Go.ChangeShapes Go.WideShapes Go.RowKit
def errD (text : List UInt8) : DataW Unit := .iface "*errors.errorString" (.ptr (.agg [.lit (.string text)]))
theorem sents {P : Program} {W : World} {ti tp te ts : TypeId} {ms : Array (String × TypeId)} {f : Field}
    (hi : P.underlying ti = some (.interface ms)) (hrow : ∀ u, P.typeName? 3 u = some "*errors.errorString" → u = tp)
    (hp : P.underlying tp = some (.pointer te)) (he : P.underlying te = some (.struct #[f])) (hft : f.type = ts) (hfo : f.offset = 0) (hs : P.underlying ts = some .string) (hc : P.cellsOf te = 1) (hcs : P.cellsOf ts = 1) :
    ∀ (L : List (String × List UInt8)) (ps : List MemPlace), DataW.LaidVars P W (L.map fun x => (x.1, errD x.2)) ps →
      (∀ x ∈ L, ∃ g, P.globalNamed x.1 = some g ∧ (P.globals[g]?).map (·.type) = some ti) →
      (∀ b off, MemPlace.cell b off ∈ ps → (∃ c t, W.heap[b]? = some (.cells c t (0, 0))) ∧ ∀ u v, W.cell? ⟨b, off, none⟩ = some (.iface u v) → Value.okWide P W .any 0 u v) →
      ∃ ad : Nat → Addr, (∀ i x, L[i]? = some x → MemPlace.cell (ad i).block (ad i).off ∈ ps ∧ W.var? P x.1 = some #[.iface tp (.pointer (some (ad i)))]) ∧
        (ps.Nodup → ∀ i j, i < L.length → j < L.length → i ≠ j → ad i ≠ ad j) := by
  intro L
  induction L with
  | nil =>
    intro ps _ _ _
    exact ⟨fun _ => ⟨0, 0, none⟩, fun i x h => by simp at h, fun _ i j h => by simp at h⟩
  | cons x r ih =>
    intro ps hl hn hr
    obtain ⟨g0, t0, cs0, f0, p0, q0, hg0, ht0, hv0, hd0, hq, rfl⟩ := hl
    obtain ⟨g, hg, ht⟩ := hn x (List.mem_cons_self ..)
    obtain rfl := Option.some.inj (hg.symm.trans hg0)
    obtain rfl := Option.some.inj (ht.symm.trans ht0)
    obtain ⟨ad, h1, h2⟩ := ih q0 hq (fun y hy => hn y (List.mem_cons_of_mem _ hy)) (fun b off hm => hr b off (List.mem_append_right _ hm))
    obtain ⟨l0⟩ := cs0
    have ok0 : ∀ u v, l0 = [.iface u v] → Value.okWide P W .any 0 u v := fun u v e => by
      subst e
      exact (hr g 0 (by simp [MemPlace.row])).2 u v (by simpa using World.var?_cell hg0 hv0 0)
    obtain ⟨a0, s0, rfl, hc0, hs0, hz0, rfl⟩ := errorString_of_trod hi hrow hp he hft hfo hs hc hcs hd0 ok0
    refine ⟨fun i => match i with | 0 => a0 | k + 1 => ad k, ?_, ?_⟩
    · intro i y hy
      match i with
      | 0 =>
        obtain rfl : x = y := by simpa using hy
        exact ⟨by simp [MemPlace.row], hv0⟩
      | k + 1 =>
        have := h1 k y (by simpa using hy)
        exact ⟨List.mem_append_right _ this.1, this.2⟩
    · intro hnd i j hi' hj' hij
      have hq' : q0.Nodup := List.Nodup.sublist (List.sublist_append_right _ _) hnd
      have hd : ∀ k, k < r.length → a0 ≠ ad k := by
        intro k hk e
        obtain ⟨y, hy⟩ : ∃ y, r[k]? = some y := ⟨r[k], List.getElem?_eq_getElem hk⟩
        have hm := (h1 k y hy).1
        rw [← e] at hm
        have hdis := (List.nodup_append.1 hnd).2.2
        exact hdis _ (List.mem_append_right _ (by simp [MemPlace.row])) _ hm rfl
      match i, j, hi', hj', hij with
      | 0, 0, _, _, h => exact absurd rfl h
      | 0, k + 1, _, hk, _ => exact hd k (by simpa using hk)
      | k + 1, 0, hk, _, _ => exact (hd k (by simpa using hk)).symm
      | k + 1, m + 1, hk, hm, hne => exact h2 hq' k m (by simpa using hk) (by simpa using hm) (fun e => hne (by rw [e]))

/-- What is laid ahead of others: what is left behind it. -/
theorem laid_peel {P : Program} {W : World} : ∀ (L M : List (String × DataW Unit)) (ps : List MemPlace), DataW.LaidVars P W (L ++ M) ps → ∃ p q, ps = p ++ q ∧ DataW.LaidVars P W M q
  | [], _, ps, h => ⟨[], ps, rfl, h⟩
  | x :: L, M, ps, h => by
    obtain ⟨g0, t0, cs0, f0, p0, q0, hg0, ht0, hv0, hd0, hq, rfl⟩ := h
    obtain ⟨p, q, rfl, h2⟩ := laid_peel L M q0 hq
    exact ⟨_, q, (List.append_assoc _ _ _).symm, h2⟩
theorem star_es : "*" ++ "errors.errorString" = "*errors.errorString" := by kernel_rfl
theorem row_es (u : TypeId) (h : Tryz.prog.typeName? 3 u = some "*errors.errorString") : u = 165 :=
  typeName_ptr_named (nm := "errors.errorString") (by rw [star_es]; kernel_rfl) (by kernel_rfl) (by decide) u (by rw [star_es]; exact h)
end Go.Proofs.YtgjehnahkbddgaaGreatDoor
