/- One value appended to a slice that the call itself made: where it lies then; a row copied behind nil. -/
import Derived.Test.YtgjehnahkbddgaaDoorApp
import Derived.Laws.AppendOwnNone
namespace Go.Proofs.YtgjehnahkbddgaaDoor
open Go.RowKit
/-- v owns the values vs in a row from block B on. -/
def OwnV (w : World) (B : Nat) (e : TypeId) (v : Value) (vs : List Value) : Prop := w.ownsRow B e 1 v vs.length vs
theorem OwnV.nil (w : World) (B : Nat) (e : TypeId) : OwnV w B e (.slice none 0 0) [] := World.ownsRow_nil w B e 1
theorem OwnV.kept {w w' : World} {B : Nat} {e : TypeId} {v : Value} {l : List Value} {row : Option Nat} (h : OwnV w B e v l) (hg : w.grownBy w' row) (hne : v.ownBlock = none ∨ v.ownBlock ≠ row) : OwnV w' B e v l := World.ownsRow.kept h hg hne
theorem OwnV.block {w : World} {B : Nat} {e : TypeId} {v : Value} {l : List Value} (h : OwnV w B e v l) {k : Nat} (hk : v.ownBlock = some k) : B ≤ k ∧ k < w.heap.size := World.ownsRow.lt h k hk
theorem OwnV.cells {w : World} {B : Nat} {e : TypeId} {v : Value} {l : List Value} (h : OwnV w B e v l) : v = .slice none 0 0 ∧ l = [] ∨ ∃ g cap, v = .slice (some ⟨g, 0, none⟩) l.length cap ∧ B ≤ g ∧ g < w.heap.size ∧ ∀ i u, l[i]? = some u → w.cell? ⟨g, i, none⟩ = some u := by
  rcases h.2 with ⟨rfl, h0⟩ | ⟨g, cap, cur, rfl, hb, hg, hnc, hcm, hcs, htake⟩
  · exact Or.inl ⟨rfl, List.length_eq_zero_iff.1 h0⟩
  · refine Or.inr ⟨g, cap, rfl, hb, (Array.getElem?_eq_some_iff.1 hg).1, fun i u hu => ?_⟩
    have hc := World.ownsRow.cells (g := g) h rfl i u hu
    rw [Addr.add_lit, Nat.zero_add] at hc
    exact hc
section
variable {P : Program} {w : World}
theorem append_where_val (B : Nat) (t ty e : TypeId) (i : TypeInfo) (z : Value) (bytes : Nat) (ht : P.underlying t = some (.slice e)) (hi : P.info? e = some i) (hz : i.zero = some z) (hsize : i.size = 1) (hby : i.bytes = bytes) (h24 : bytes ≤ 64)
    (v : Value) (l : List Value) (hown : OwnV w B e v l) (ad : Addr) (c : Nat) (u : Value) (hu : u.oneCell' = true) (hb : w.cell? ad = some u) (hl : l.length + 1 ≤ 1000000) {v' : Value} {w' : World}
    (hr : (Builtin.append_ #[t, t] ty #[v, .slice (some ad) 1 c]).run P w = .ok v' w') : v'.ownBlock = v.ownBlock ∨ v'.ownBlock = some w.heap.size := by
  have hnews : ∀ j x, [u][j]? = some x → w.cell? (ad.add j) = some x := by
    intro j x hj
    match j, hj with
    | 0, hj =>
      obtain rfl : u = x := by simpa using hj
      simpa [Addr.add] using hb
  rcases hown.2 with ⟨rfl, h0⟩ | ⟨g, cap, cur, rfl, hbg, hg, hnc, hcm, hcs, htake⟩
  · have := run_append_nil (P := P) w t ty e i z ht hi hz ad 1 c [u] (by rw [hsize]; rfl) hnews (by decide) (by decide) (by rw [hby]; omega)
    rw [this] at hr
    injection hr with h1 h2
    subst h1
    exact Or.inr rfl
  · by_cases hroom : l.length + 1 ≤ cap
    · have := run_append_room (P := P) w t ty e i ht hi g l.length cap cur hg ad 1 c [u] (by rw [hsize]; rfl) hnews (fun x hx => by rw [List.mem_singleton.1 hx]; exact hu) hroom (by rw [hsize, hcs]; simpa using hroom)
      rw [this] at hr
      injection hr with h1 h2
      subst h1
      exact Or.inl rfl
    · have hbd : (l.length + 1) * bytes ≤ 1000000 * 64 := Nat.mul_le_mul hl h24
      have := run_append_grow (P := P) w t ty e i z ht hi hz ⟨g, 0, none⟩ l.length cap l (by rw [hsize]; exact hown.1) (World.ownsRow.cells (g := g) hown rfl) ad 1 c [u] (by rw [hsize]; rfl) hnews (by omega) (by omega) (growslice_fits (by omega) (by rw [hby]; omega))
      rw [this] at hr
      injection hr with h1 h2
      subst h1
      exact Or.inr rfl
theorem wpList_append_val {ops : Array Oper} {rest : List Oper} {o : Oper} {a : Act} {Q : Exit → Act → World → Prop} (hgd : o.guard = none) (s x : Operand) (t : TypeId)
    (ho : o.op = .call { callee := .builtin .append, args := #[s, x], argTypes := #[t, t] })
    (B : Nat) (e : TypeId) (i : TypeInfo) (z : Value) (bytes : Nat) (ht : P.underlying t = some (.slice e)) (hi : P.info? e = some i) (hz : i.zero = some z) (hzs : z.cells.size = 1) (hsize : i.size = 1) (hby : i.bytes = bytes) (h24 : bytes ≤ 64)
    (v : Value) (l : List Value) (hs : a.eval s = v) (hown : OwnV w B e v l) (ad : Addr) (c : Nat) (u : Value) (hu : u.oneCell' = true) (hx : a.eval x = .slice (some ad) 1 c) (hb : w.cell? ad = some u) (hl : l.length + 1 ≤ 1000000) (hbase : B ≤ w.heap.size)
    (h : ∀ v' w', OwnV w' B e v' (l ++ [u]) → w.grownBy w' v.ownBlock → (v'.ownBlock = v.ownBlock ∨ v'.ownBlock = some w.heap.size) → wpList P ops Q rest (a.put o.dst v') w') : wpList P ops Q (o :: rest) a w := by
  have hnews : ∀ j x, [u][j]? = some x → w.cell? (ad.add j) = some x := by
    intro j x hj
    match j, hj with
    | 0, hj =>
      obtain rfl : u = x := by simpa using hj
      simpa [Addr.add] using hb
  have hbd : (l.length + 1) * bytes ≤ 1000000 * 64 := Nat.mul_le_mul hl h24
  refine wpList_plain hgd fun K hK => ?_
  obtain ⟨v', w', hr, h2, h3, _⟩ := run_append_own (P := P) w B t o.type e i z 1 bytes ht hi hz hsize hby hzs (by decide) v l.length l hown ad 1 c [u] rfl hnews (fun x hx => by rw [List.mem_singleton.1 hx]; exact hu) (by unfold maxLen; omega) (by omega) hbase
  have h4 := append_where_val B t o.type e i z bytes ht hi hz hsize hby h24 v l hown ad c u hu hb hl hr
  have h5 : OwnV w' B e v' (l ++ [u]) := by
    unfold OwnV
    rw [List.length_append]
    exact h2
  unfold Oper.wp execOp
  simp only [ho, resolve, invoke, builtin, Sem.run_bind, Sem.run_pure, Result.andThen_ok, List.map_toArray, List.map_cons, List.map_nil, hs, hx, hr]
  exact hK _ _ (h v' w' h5 h3 h4)
/-- A row copied behind nil: nil again, or a new row. -/
theorem wpList_copy_row {ops : Array Oper} {rest : List Oper} {o : Oper} {a : Act} {Q : Exit → Act → World → Prop} (hgd : o.guard = none) (s x : Operand) (t : TypeId)
    (ho : o.op = .call { callee := .builtin .append, args := #[s, x], argTypes := #[t, t] })
    (e : TypeId) (i : TypeInfo) (ht : P.underlying t = some (.slice e)) (hi : P.info? e = some i) (hz : i.zero = some (byteV 0)) (hsize : i.size = 1) (hby : i.bytes = 1)
    (hs : a.eval s = .slice none 0 0) (q : Option Addr) (r : List Nat) (c : Nat) (hx : a.eval x = .slice q r.length c) (hq : Seg w q r) (hl : r.length ≤ 1000000) (hc0 : q = none → c = 0)
    (h : ∀ v' w', Own w' w.heap.size e v' r → Below w.heap.size w w' → wpList P ops Q rest (a.put o.dst v') w') : wpList P ops Q (o :: rest) a w := by
  rcases hq.cells with hr | ⟨b, o', rfl, hb, hcell⟩
  · subst hr
    refine wpList_plain hgd fun K hK => ?_
    have hr : (Builtin.append_ #[t, t] o.type #[.slice none 0 0, .slice q 0 c]).run P w = .ok (.slice none 0 0) w := by
      cases q with
      | none => obtain rfl := hc0 rfl; simp [Builtin.append_, run_underlying ht, sizeOf, typeInfo, hi, Builtin.lenOf, Builtin.firstCells]
      | some ad => simp [Builtin.append_, run_underlying ht, sizeOf, typeInfo, hi, Builtin.lenOf, Builtin.firstCells, loadCells, loadCellsFrom]
    unfold Oper.wp execOp
    simp only [List.length_nil] at hx
    simp only [ho, resolve, invoke, builtin, Sem.run_bind, Sem.run_pure, Result.andThen_ok, List.map_toArray, List.map_cons, List.map_nil, hs, hx, hr]
    exact hK _ _ (h _ _ (Own.nil w _ e) (Below.refl _ _))
  · refine wpList_append_own w hgd s x t ho w.heap.size e i (byteV 0) 1 1 ht hi hz hsize hby rfl (by decide) (.slice none 0 0) 0 [] hs (World.ownsRow_nil w _ e 1) ⟨b, o', none⟩ r.length c (r.map byteV) hx (by simp) ?_ ?_ (by unfold maxLen; omega) (by omega) (Nat.le_refl _) ?_
    · intro j u hj
      rw [List.getElem?_map] at hj
      obtain ⟨y, hy1, hy2⟩ := Option.map_eq_some_iff.1 hj
      have hjl : j < r.length := (List.getElem?_eq_some_iff.1 hy1).1
      rw [Addr.add_lit, hcell j hjl, Gf.nth_getElem r j hjl, ← hy2]
      have : r[j] = y := (List.getElem?_eq_some_iff.1 hy1).2
      rw [this]
      rfl
    · intro u hu
      obtain ⟨y, _, rfl⟩ := List.mem_map.1 hu
      rfl
    · intro v' w' hown hg _
      refine h v' w' ?_ ((Below.refl _ _).grown hg (Nat.le_refl _) (fun k hk => by simp [Value.ownBlock] at hk))
      simpa [Own] using hown
end
end Go.Proofs.YtgjehnahkbddgaaDoor
